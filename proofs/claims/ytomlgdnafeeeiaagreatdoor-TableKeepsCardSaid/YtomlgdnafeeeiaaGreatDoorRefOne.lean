
import Derived.Test.YtomlgdnafeeeiaaGreatDoorLyE
import Derived.Test.YtomlgdnafeeeiaaGreatDoorRfP
import Derived.Deep.DeepCutAuto
import Derived.ChangeAlike
set_option maxHeartbeats 16000000
set_option maxRecDepth 100000
/-
 The reference's smaller functions: names,find,In,Lap,Reg,ClassOf,OpOf,Arity,operand,distinct,list,choices,clear,May,Pair,apart,Fits.
-/
namespace Go.Proofs.YtomlgdnafeeeiaaGreatDoor
open Proofs.Tryz
open Go.RowKit
theorem XN(c:Int)(w:World):Calls prog 142 #[.int .u8 c] w fun e w'=>e = .returned (.bool (xe c))/\w=w':=by
 go_enter func142,ntmps142
 go_wp2
 all_goals
  go_ret
  exact⟨qq (by unfold xe;rw[Bool.eq_iff_iff];simp;omega),rfl⟩
theorem qaI(c:Int)(w:World):Calls prog 143 #[.int .u8 c] w fun e w'=>e = .returned (.bool (xK c))/\w=w':=by
 go_enter func143,ntmps143
 go_wp2
 all_goals
  go_ret
  exact⟨qq (by unfold xK;rw[Bool.eq_iff_iff];simp;omega),rfl⟩
theorem qfE(s:ByteArray)(w:World)(h:js s):Calls prog 97 #[.string s] w fun e w'=>e = .returned (.bool false)/\w=w':=by
 have h0:=h [109,97,99,104,105,110,101] (by decide)
 have h1:=h [114,101,103] (by decide)
 have h2:=h [97,116] (by decide)
 have h3:=h [99,108,97,115,115] (by decide)
 have h4:=h [111,112] (by decide)
 have h5:=h [116,105,101] (by decide)
 have h6:=h [99,108,111,98] (by decide)
 have h7:=h [97,114,103,115] (by decide)
 have h8:=h [114,101,115,117,108,116] (by decide)
 have h9:=h [115,97,118,101,100] (by decide)
 have h10:=h [115,108,111,116,115] (by decide)
 clear h
 go_enter func97,ntmps97
 go_wp2
 go_ret
 exact⟨rfl,rfl⟩
theorem qdZ(s:ByteArray)(w:World)(h:∃x,x∈words/\(s.toList==x)=true):Calls prog 97 #[.string s] w fun e w'=>e = .returned (.bool true)/\w=w':=by
 obtain⟨x,hx,hs⟩:=h
 obtain rfl:=qgr hs
 unfold words at hx
 simp only[List.mem_cons,List.not_mem_nil,or_false] at hx
 clear hs
 rcases hx with rfl|rfl|rfl|rfl|rfl|rfl|rfl|rfl|rfl|rfl|rfl
 all_goals
  go_enter func97,ntmps97
  go_wp2
  go_ret
  exact⟨rfl,rfl⟩
def qcm(s:ByteArray):Bool:=words.any fun x=>s.toList==x
theorem qkl(s:ByteArray)(w:World):Calls prog 97 #[.string s] w fun e w'=>e = .returned (.bool (qcm s))/\w=w':=by
 cases h:qcm s with
 | true=>exact qdZ s w (by simpa[qcm] using h)
 | false=>exact qfE s w (fun x hx=>(vD).2 (List.any_eq_false.1 h x hx))
def Jo(s:ByteArray):Bool:=decide (0<s.size/\s.size<=20)&&xe (s.data.toList.headD 0).toNat&&s.data.toList.all fun c=>qU c.toNat
theorem qja(s:ByteArray):qj s=(Jo s && !qcm s):=by
 unfold qj Jo qcm
 congr 1
 rw[List.not_any_eq_all_not]
theorem qkm(s:ByteArray)(w:World):Calls prog 96 #[.string s] w fun e w'=>e = .returned (.bool (Jo s))/\w=w':=by
 by_cases h0:s.size=0
 ·have hs:s=⟨#[]⟩:=by
   cases s with
   |mk d=>
    have:d=#[]:=Array.size_eq_zero_iff.1 h0
    rw[this]
  subst hs
  go_enter func96,ntmps96
  go_wp2_with fail
  go_ret
  exact⟨rfl,rfl⟩
 ·have hne:(s.toList==[])=false:=by
   rw[vD]
   intro h
   have h':s.toList = []:=by simpa using h
   rw[ByteArray.toList_eq] at h'
   exact h0 (by have:=congrArg List.length h';simpa using this)
  by_cases hl:20<s.size
  ·have hl2:(20:Int)<s.size:=by omega
   have hr:Hid (Jo s=false):=vH (by unfold Jo;rw[vF (by omega)];rfl)
   clear h0
   go_enter func96,ntmps96
   go_wp2_with fail
   go_ret
   exact⟨qq hr.out.symm,rfl⟩
  ·have hl2:¬ (20:Int)<s.size:=by omega
   have hpos:0<s.size:=by omega
   have hd:Hid (s.data.toList.headD 0=s[0]'hpos):=vH (by
    have:=Zw s 0 hpos
    rw[List.drop_zero] at this
    rw[this];rfl)
   have hok:Hid (0<s.size/\s.size<=20):=vH ⟨hpos,by omega⟩
   have hs65:s.size<=20:=by omega
   clear h0
   go_enter func96,ntmps96
   go_wp2_with (go_at_call 142;refine(XN _ _).mono ?_;rintro e w' ⟨rfl,rfl⟩)
   go_loop [4] (fun i=>∃j:Nat,j<=s.size/\i = .int .i64 j/\Hid ((s.data.toList.take j).all (fun c=>qU c.toNat)=true)) (fun i=>s.size-(intOf i).toNat)
   case atStart=>exact⟨0,vO _,rfl,vH rfl⟩
   case round=>
    obtain⟨j,hj,rfl,hE⟩:=hrel
    by_cases hlt:j<s.size
    ·by_cases hp:qU s[j].toNat=true
     ·have hE2:Hid ((s.data.toList.take (j+1)).all (fun c=>qU c.toNat)=true):=vH (by
       have hjl:j<s.data.toList.length:=by simpa using hlt
       rw[←List.take_append_getElem hjl,List.all_append,hE.out]
       have:s.data.toList[j]=s[j]:=by simp[ByteArray.getElem_eq_getElem_data]
       simp[this,hp])
      unfold qU at hp
      clear hE
      by_cases ha:xe s[j].toNat=true
      ·clear hp
       go_wp2_with (first|(go_at_call 142;refine(XN _ _).mono ?_;rintro e w' ⟨rfl,rfl⟩)|(go_at_call 143;refine(qaI _ _).mono ?_;rintro e w' ⟨rfl,rfl⟩))
       go_round
       case rel=>exact⟨j+1,by omega,by go_num,hE2⟩
       case measure=>simp[intOf];omega
      ·have ha2:xe s[j].toNat=false:=by simpa using ha
       have hb:xK s[j].toNat=true:=by rw[ha2] at hp;simpa using hp
       clear hp ha
       go_wp2_with (first|(go_at_call 142;refine(XN _ _).mono ?_;rintro e w' ⟨rfl,rfl⟩)|(go_at_call 143;refine(qaI _ _).mono ?_;rintro e w' ⟨rfl,rfl⟩))
       go_round
       case rel=>exact⟨j+1,by omega,by go_num,hE2⟩
       case measure=>simp[intOf];omega
     ·have hr:Hid (Jo s=false):=vH (by
       unfold Jo
       have:(s.data.toList.all fun c=>qU c.toNat)=false:=by
        rw[vD]
        intro h
        have hjl:j<s.data.toList.length:=by simpa using hlt
        have:=vV.1 h _ (List.getElem_mem hjl)
        have he:s.data.toList[j]=s[j]:=by simp[ByteArray.getElem_eq_getElem_data]
        rw[he] at this
        exact hp this
       rw[this,Bool.and_false])
      have ha:xe s[j].toNat=false:=by
       cases h:xe s[j].toNat
       ·rfl
       ·exact absurd (by unfold qU;rw[h];rfl) hp
      have hb:xK s[j].toNat=false:=by
       cases h:xK s[j].toNat
       ·rfl
       ·exact absurd (by unfold qU;rw[h,Bool.or_true]) hp
      clear hE hp
      go_wp2_with (first|(go_at_call 142;refine(XN _ _).mono ?_;rintro e w' ⟨rfl,rfl⟩)|(go_at_call 143;refine(qaI _ _).mono ?_;rintro e w' ⟨rfl,rfl⟩))
      go_ret
      exact⟨qq hr.out.symm,rfl⟩
    ·have hr:Hid (Jo s=xe (s[0]'hpos).toNat):=vH (by
      unfold Jo
      have hall:=hE.out
      rw[List.take_of_length_le (by simp;omega)] at hall
      rw[hall,vT hok.out,hd.out];simp)
     clear hE
     go_wp2_with fail
     go_ret
     exact⟨qq hr.out.symm,rfl⟩
theorem XH(s:ByteArray)(w:World):Calls prog 47 #[.string s] w fun e w'=>e = .returned (.bool (qj s))/\w=w':=by
 have K1:=qkm s w
 have K2:=qkl s w
 rw[qja]
 generalize Jo s=x at *
 generalize qcm s=y at *
 cases x <;> cases y
 all_goals
  go_enter func47,ntmps47
  go_wp2_with (first|(go_at_call 96;refine K1.mono ?_;clear K1;rintro e w' ⟨rfl,rfl⟩)|(go_at_call 97;refine K2.mono ?_;clear K2;rintro e w' ⟨rfl,rfl⟩))
  go_ret
  exact⟨rfl,rfl⟩
theorem qcR(s:SlV)(l:List ByteArray)(nm:ByteArray)(w:World)(hl:qG w s l)(hbig:s.n<4611686018427387904) :
 Calls prog 52 #[.slice s.a s.n s.c,.string nm] w fun e w'=>e = .returned (.int .i64 (qv l nm))/\w=w':=by
 obtain⟨a,n,c⟩:=s
 obtain⟨hn1,hcap,hl⟩:=hl
 dsimp only at hn1 hcap hl hbig ⊢
 subst hn1
 replace hl:=vH hl
 go_enter func52,ntmps52
 go_wp2
 go_loop [5] (fun i=>∃k:Nat,k<=l.length/\i = .int .i64 k/\zU (fun x=>eqB x nm) l k) (fun i=>l.length-(intOf i).toNat)
 case atStart=>exact⟨0,vO _,rfl,zU.zero _ _⟩
 case round=>
  obtain⟨k,hk,rfl,hY⟩:=hrel
  replace hY:=vH hY
  by_cases hlt:k<l.length
  ·obtain⟨x,hx⟩:∃x,l[k]?=some x:=⟨l[k],by rw[vE hlt]⟩
   obtain⟨b,o,rfl,hc⟩:=hl.out k x hx
   replace hx:=vH hx
   by_cases hp:eqB x nm=true
   ·have hp2:(x.toList==nm.toList)=true:=(Lib.bytes_beq_iff x nm).2 (by simpa[eqB] using hp)
    replace hp:=vH hp
    go_wp2_with fail
    go_ret
    exact⟨qI (hY.out.hit hx.out hp.out).symm,rfl⟩
   ·have hp':eqB x nm=false:=by simpa using hp
    have hp2:(x.toList==nm.toList)=false:=(vD).2 fun h=>by have:=(Lib.bytes_beq_iff x nm).1 h;simp[eqB,this] at hp'
    replace hp':=vH hp'
    clear hp
    go_wp2_with fail
    go_round
    case rel=>exact⟨k+1,by omega,by go_num,hY.out.succ hx.out hp'.out⟩
    case measure=>simp[intOf];omega
  ·go_wp2_with fail
   go_ret
   exact⟨qI (hY.out.miss (by omega)).symm,rfl⟩
theorem qbz{l:List Int}{x:Int}{k:Nat}{a:Int}(h:(l.take k).contains x=false)(hk:l[k]?=some a)(ha:(a==x)=false):(l.take (k+1)).contains x=false:=by
 have hl:=(vS.1 hk).1
 have he:=(vS.1 hk).2
 have hne:¬ a=x:=by simpa using ha
 rw[←List.take_append_getElem hl,he]
 simp only[List.contains_eq_mem,decide_eq_false_iff_not,vC,List.mem_singleton] at h ⊢
 rintro(h1|h1)
 ·exact h h1
 ·exact hne h1.symm
theorem qjb(s:SlV)(l:List Int)(x:Int)(w:World)(hl:qJ w s l)(hbig:s.n<4611686018427387904) :
 Calls prog 54 #[.slice s.a s.n s.c,.int .i64 x] w fun e w'=>e = .returned (.bool (l.contains x))/\w=w':=by
 obtain⟨a,n,c⟩:=s
 obtain⟨hn1,hcap,hl⟩:=hl
 dsimp only at hn1 hcap hl hbig ⊢
 subst hn1
 replace hl:=vH hl
 go_enter func54,ntmps54
 go_wp2
 go_loop [5] (fun i=>∃k:Nat,k<=l.length/\i = .int .i64 k/\Hid ((l.take k).contains x=false)) (fun i=>l.length-(intOf i).toNat)
 case atStart=>exact⟨0,vO _,rfl,vH (by simp)⟩
 case round=>
  obtain⟨k,hk,rfl,hY⟩:=hrel
  by_cases hlt:k<l.length
  ·obtain⟨y,hx⟩:∃y,l[k]?=some y:=⟨l[k],by rw[vE hlt]⟩
   obtain⟨b,o,rfl,hc⟩:=hl.out k y hx
   replace hx:=vH hx
   cases hp:y==x with
   |true=>
    have hr:Hid (l.contains x=true):=vH (by
     have:=vM hx.out
     have he:y=x:=by simpa using hp
     rw[he] at this
     simpa using this)
    have hdec:decide (y=x)=true:=by simpa using hp
    go_wp2_with fail
    go_ret
    exact⟨qq (by rw[←List.contains_eq_mem];exact hr.out.symm),rfl⟩
   |false=>
    have hY2:=vH (qbz hY.out hx.out hp)
    have hdec:decide (y=x)=false:=by simpa using hp
    clear hY
    go_wp2_with fail
    go_round
    case rel=>exact⟨k+1,by omega,by go_num,hY2⟩
    case measure=>simp[intOf];omega
  ·have hr:Hid (l.contains x=false):=vH (by
    have:=hY.out
    rw[List.take_of_length_le (by omega)] at this
    exact this)
   clear hY
   go_wp2_with fail
   go_ret
   exact⟨qq (by rw[←List.contains_eq_mem];exact hr.out.symm),rfl⟩
theorem qjc(p q:Plc)(w:World)(hp:xT p)(hq:xT q) :
 Calls prog 51 #[.agg #[.int .i64 p.1,.int .i64 p.2.1,.int .i64 p.2.2],.agg #[.int .i64 q.1,.int .i64 q.2.1,.int .i64 q.2.2]] w fun e w'=>
  e = .returned (.bool (zR p q))/\BX w w':=by
 obtain⟨p1,p2,p3⟩:=p
 obtain⟨q1,q2,q3⟩:=q
 obtain⟨a1,a2,a3,a4⟩:=hp
 obtain⟨b1,b2,b3,b4⟩:=hq
 dsimp only at a1 a2 a3 a4 b1 b2 b3 b4 ⊢
 have s1:IntKind.i64.wrap (q2+q3)=q2+q3:=vI _ (by omega)
 have s2:IntKind.i64.wrap (p2+p3)=p2+p3:=vI _ (by omega)
 have g1:0<p3:=by omega
 have g2:0<q3:=by omega
 have hB:Hid (BX w ((w.alloc (.cells #[.int .i64 p1,.int .i64 p2,.int .i64 p3] 87)).alloc (.cells #[.int .i64 q1,.int .i64 q2,.int .i64 q3] 87))):=vH (qi.alloc (by simp) _)
 by_cases h:p1=q1
 ·subst h
  by_cases hA:p2<q2+q3
  ·by_cases hC:q2<p2+p3
   ·have hr:Hid (zR (p1,p2,p3) (p1,q2,q3)=true):=vH (by unfold zR jN;simp[hA,hC])
    go_enter func51,ntmps51
    go_wp2_with fail
    go_ret
    exact⟨qq hr.out.symm,hB.out⟩
   ·have hr:Hid (zR (p1,p2,p3) (p1,q2,q3)=false):=vH (by unfold zR jN;simp[hC])
    go_enter func51,ntmps51
    go_wp2_with fail
    go_ret
    exact⟨qq hr.out.symm,hB.out⟩
  ·have hr:Hid (zR (p1,p2,p3) (p1,q2,q3)=false):=vH (by unfold zR jN;simp[hA])
   go_enter func51,ntmps51
   go_wp2_with fail
   go_ret
   exact⟨qq hr.out.symm,hB.out⟩
 ·have hr:Hid (zR (p1,p2,p3) (q1,q2,q3)=false):=vH (by unfold zR;simp[h])
  have h2:(p1==q1)=false:=by simpa using h
  have h3:decide (p1=q1)=false:=by simpa using h
  go_enter func51,ntmps51
  go_wp2_with fail
  go_ret
  exact⟨qq hr.out.symm,hB.out⟩
structure TV where
 m:MV
 names:SlV
 places:SlV
 classes:SlV
def TV.cells(t:TV):Array Value:=#[.string t.m.name,.slice t.m.regs.a t.m.regs.n t.m.regs.c,.slice t.m.classes.a t.m.classes.n t.m.classes.c,.slice t.m.ops.a t.m.ops.n t.m.ops.c,.slice t.m.args.a t.m.args.n t.m.args.c,.string t.m.result,.slice t.m.saved.a t.m.saved.n t.m.saved.c,.int .i64 t.m.slots,
 .slice t.names.a t.names.n t.names.c,.slice t.places.a t.places.n t.places.c,.slice t.classes.a t.classes.n t.classes.c]
def TabAt(W:World)(T:Nat)(t:TV):Prop:=qd W T 67 t.cells
theorem ZN(T:Nat)(t:TV)(ns:List ByteArray)(nm:ByteArray)(w:World)(hT:TabAt w T t)(hN:qG w t.names ns)(hbig:t.names.n<4611686018427387904) :
 Calls prog 24 #[.pointer (some ⟨T,0,none⟩),.string nm] w fun e w'=>e = .returned (.int .i64 (qv ns nm))/\w=w':=by
 have K:=qcR t.names ns nm w hN hbig
 have c8:=qd.cell hT (j:=8) (v:=.slice t.names.a t.names.n t.names.c) rfl
 clear hN hT
 go_enter func24,ntmps24
 go_wp2_with (go_at_call 52;refine K.mono ?_;clear K;rintro e W1 ⟨rfl,rfl⟩)
 go_ret
 exact⟨rfl,rfl⟩
theorem QD(T:Nat)(t:TV)(cs:List qp)(nm:ByteArray)(w:World)(hT:TabAt w T t)(hK:qS w t.m.classes cs)(hbig:t.m.classes.n<4611686018427387904) :
 Calls prog 99 #[.pointer (some ⟨T,0,none⟩),.string nm] w fun e w'=>e = .returned (.int .i64 (zM (fun x:qp=>eqB x.name nm) cs))/\w=w':=by
 have c2:=qd.cell hT (j:=2) (v:=.slice t.m.classes.a t.m.classes.n t.m.classes.c) rfl
 obtain⟨⟨mn,rg,⟨a,n,c⟩,op,ar,rs,sv,sl⟩,nV,pV,cV⟩:=t
 obtain⟨hn1,hcap,hl⟩:=hK
 dsimp only at hn1 hcap hl hbig c2 ⊢
 subst hn1
 replace hl:=vH hl
 clear hT
 go_enter func99,ntmps99
 go_wp2
 go_loop [5] (fun i=>∃k:Nat,k<=cs.length/\i = .int .i64 k/\zU (fun x:qp=>eqB x.name nm) cs k) (fun i=>cs.length-(intOf i).toNat)
 case atStart=>exact⟨0,vO _,rfl,zU.zero _ _⟩
 case round=>
  obtain⟨k,hk,rfl,hY⟩:=hrel
  replace hY:=vH hY
  by_cases hlt:k<cs.length
  ·obtain⟨x,hx⟩:∃x,cs[k]?=some x:=⟨cs[k],by rw[vE hlt]⟩
   obtain⟨b,o,rfl,r,hc,_,_⟩:=hl.out k x hx
   replace hx:=vH hx
   by_cases hp:eqB x.name nm=true
   ·have hp2:(x.name.toList==nm.toList)=true:=(Lib.bytes_beq_iff x.name nm).2 (by simpa[eqB] using hp)
    replace hp:=vH hp
    go_wp2_with fail
    go_ret
    exact⟨qI (hY.out.hit hx.out hp.out).symm,rfl⟩
   ·have hp':eqB x.name nm=false:=by simpa using hp
    have hp2:(x.name.toList==nm.toList)=false:=(vD).2 fun h=>by have:=(Lib.bytes_beq_iff x.name nm).1 h;simp[eqB,this] at hp'
    replace hp':=vH hp'
    clear hp
    go_wp2_with fail
    go_round
    case rel=>exact⟨k+1,by omega,by go_num,hY.out.succ hx.out hp'.out⟩
    case measure=>simp[intOf];omega
  ·go_wp2_with fail
   go_ret
   exact⟨qI (hY.out.miss (by omega)).symm,rfl⟩
theorem qkn(T:Nat)(t:TV)(os:List OpD)(nm:ByteArray)(w:World)(hT:TabAt w T t)(hK:jP w t.m.ops os)(hbig:t.m.ops.n<4611686018427387904) :
 Calls prog 101 #[.pointer (some ⟨T,0,none⟩),.string nm] w fun e w'=>e = .returned (.int .i64 (zM (fun x:OpD=>eqB x.name nm) os))/\w=w':=by
 have c3:=qd.cell hT (j:=3) (v:=.slice t.m.ops.a t.m.ops.n t.m.ops.c) rfl
 obtain⟨⟨mn,rg,kl,⟨a,n,c⟩,ar,rs,sv,sl⟩,nV,pV,cV⟩:=t
 obtain⟨hn1,hcap,hl⟩:=hK
 dsimp only at hn1 hcap hl hbig c3 ⊢
 subst hn1
 replace hl:=vH hl
 clear hT
 go_enter func101,ntmps101
 go_wp2
 go_loop [5] (fun i=>∃k:Nat,k<=os.length/\i = .int .i64 k/\zU (fun x:OpD=>eqB x.name nm) os k) (fun i=>os.length-(intOf i).toNat)
 case atStart=>exact⟨0,vO _,rfl,zU.zero _ _⟩
 case round=>
  obtain⟨k,hk,rfl,hY⟩:=hrel
  replace hY:=vH hY
  by_cases hlt:k<os.length
  ·obtain⟨x,hx⟩:∃x,os[k]?=some x:=⟨os[k],by rw[vE hlt]⟩
   obtain⟨b,o,rfl,u,kk,hc,_,_,_,_,_,_,_⟩:=hl.out k x hx
   replace hx:=vH hx
   by_cases hp:eqB x.name nm=true
   ·have hp2:(x.name.toList==nm.toList)=true:=(Lib.bytes_beq_iff x.name nm).2 (by simpa[eqB] using hp)
    replace hp:=vH hp
    go_wp2_with fail
    go_ret
    exact⟨qI (hY.out.hit hx.out hp.out).symm,rfl⟩
   ·have hp':eqB x.name nm=false:=by simpa using hp
    have hp2:(x.name.toList==nm.toList)=false:=(vD).2 fun h=>by have:=(Lib.bytes_beq_iff x.name nm).1 h;simp[eqB,this] at hp'
    replace hp':=vH hp'
    clear hp
    go_wp2_with fail
    go_round
    case rel=>exact⟨k+1,by omega,by go_num,hY.out.succ hx.out hp'.out⟩
    case measure=>simp[intOf];omega
  ·go_wp2_with fail
   go_ret
   exact⟨qI (hY.out.miss (by omega)).symm,rfl⟩
def TV.cv(t:TV):CV:=⟨t.m,t.names,t.places,t.classes,⟨none,0,0⟩,⟨none,0,0⟩,0⟩
theorem Zn(T:Nat)(t:TV)(ps:List Plc)(r x:Int)(w:World)(hT:TabAt w T t)(hP:xg w t.cv ps)(hr:Num ps r)(hx:Num ps x) :
 Calls prog 23 #[.pointer (some ⟨T,0,none⟩),.int .i64 r,.int .i64 x] w fun e w'=>e = .returned (.bool (zR (plc ps r) (plc ps x)))/\BX w w':=by
 have K:=fun W=>qjc (plc ps r) (plc ps x) W (hr.plc_ok hP) (hx.plc_ok hP)
 obtain⟨b,o,ha,p0,p1,p2⟩:=hP.at_ _ _ hr.get
 obtain⟨b',o',ha',q0,q1,q2⟩:=hP.at_ _ _ hx.get
 have hlen:=hP.len
 have ea:t.cv.places=t.places:=rfl
 rw[ea] at ha ha' hlen
 obtain⟨i,rfl⟩:∃i:Nat,r=i:=⟨r.toNat,by have:=hr.1;omega⟩
 obtain⟨j,rfl⟩:∃j:Nat,x=j:=⟨x.toNat,by have:=hx.1;omega⟩
 have i0:(0:Int)<=i:=vN _
 have j0:(0:Int)<=j:=vN _
 have i1:i<t.places.n:=by have:=hr.2;omega
 have j1:j<t.places.n:=by have:=hx.2;omega
 have i2:(i:Int)<t.places.n:=by omega
 have j2:(j:Int)<t.places.n:=by omega
 have c9:=qd.cell hT (j:=9) (v:=.slice t.places.a t.places.n t.places.c) rfl
 rw[ha] at ha'
 cases ha'
 rw[ha] at c9
 simp only[Int.toNat_natCast] at p0 p1 p2 q0 q1 q2
 generalize plc ps (i:Int)=pr at K p0 p1 p2 ⊢
 generalize plc ps (j:Int)=px at K q0 q1 q2 ⊢
 obtain⟨u0,u1,u2⟩:=pr
 obtain⟨v0,v1,v2⟩:=px
 dsimp only at K p0 p1 p2 q0 q1 q2
 generalize zR (u0,u1,u2) (v0,v1,v2)=z at K ⊢
 generalize t.places.n=pn at *
 generalize t.places.c=pc at *
 clear ha hP hT hr hx hlen ea
 go_enter func23,ntmps23
 go_wp2_with fail
 go_region_held3 (fun w'=>w'.cell? ⟨T,9,none⟩=some (.slice (some ⟨b,o,none⟩) pn pc)/\w'.cell? ⟨b,o+i*3,none⟩=some (.int .i64 u0)/\w'.cell? ⟨b,o+i*3+1,none⟩=some (.int .i64 u1)/\w'.cell? ⟨b,o+i*3+2,none⟩=some (.int .i64 u2)/\w'.cell? ⟨b,o+j*3,none⟩=some (.int .i64 v0)/\w'.cell? ⟨b,o+j*3+1,none⟩=some (.int .i64 v1)/\w'.cell? ⟨b,o+j*3+2,none⟩=some (.int .i64 v2))
  (go_keep)
  ((go_at_call 51;refine(K _).mono ?_;rintro e W2 ⟨rfl,hb2⟩;have k0:=qb hb2 c9;have k1:=qb hb2 p0;have k2:=qb hb2 p1;have k3:=qb hb2 p2;have k4:=qb hb2 q0;have k5:=qb hb2 q1;have k6:=qb hb2 q2))
 all_goals
  go_wp2_with fail
  go_ret
  first|exact⟨rfl,hb2⟩|exact⟨rfl,hb2.drew⟩|exact⟨rfl,(kB _ _).drew.trans hb2⟩
theorem qea(T:Nat)(t:TV)(ls:List (List Int))(c:Int)(x:Int)(w:World)(hT:TabAt w T t)(hL:zW w t.classes ls)(hc:c = -1∨0<=c/\c<ls.length) :
 Calls prog 26 #[.pointer (some ⟨T,0,none⟩),.int .i64 c,.int .i64 x] w fun e w'=>e = .returned (.bool (decide (0<=c)&&(ls.getD c.toNat []).contains x))/\w=w':=by
 rcases hc with rfl|⟨h0,h1⟩
 ·clear hL hT
  go_enter func26,ntmps26
  go_wp2_with fail
  go_ret
  exact⟨rfl,rfl⟩
 ·obtain⟨k,rfl⟩:∃k:Nat,c=k:=⟨c.toNat,by omega⟩
  have hk:k<ls.length:=by omega
  obtain⟨l,hl⟩:∃l,ls[k]?=some l:=⟨ls[k],vE hk⟩
  obtain⟨b,o,v,ha,hcell,hI,hlen,_,hcap⟩:=hL.get hl
  have hn:=hL.len
  have hvn:=hI.len
  have K:=qjb v l x w hI.at_ (by omega)
  have hr:Hid ((decide ((0:Int)<=(k:Int))&&(ls.getD (k:Int).toNat []).contains x)=l.contains x):=vH (by
   rw[vT h0,Bool.true_and,Int.toNat_natCast,vG,hl];rfl)
  have c10:=qd.cell hT (j:=10) (v:=.slice t.classes.a t.classes.n t.classes.c) rfl
  rw[ha] at c10
  have i1:k<t.classes.n:=by omega
  have i2:(k:Int)<t.classes.n:=by omega
  generalize t.classes.n=pn at *
  generalize t.classes.c=pc at *
  generalize l.contains x=z at *
  clear hL hT hl hI hk h1 hn hvn hlen ha
  go_enter func26,ntmps26
  go_wp2_with (go_at_call 54;refine K.mono ?_;clear K;rintro e W1 ⟨rfl,rfl⟩)
  go_ret
  exact⟨qq hr.out.symm,rfl⟩
theorem qjd(s:ByteArray)(w:World):Calls prog 100 #[.string s] w fun e w'=>e = .returned (.int .i64 (zk s))/\w=w':=by
 by_cases h2:∃x,x∈jO/\s.toList=x
 ·obtain⟨x,hx,hs⟩:=h2
  have hr:Hid (zk s=2):=vH (by unfold zk;rw[hs,if_pos (by simpa using hx)])
  simp only[jO,List.mem_cons,List.not_mem_nil,or_false] at hx
  rcases hx with rfl|rfl|rfl|rfl|rfl|rfl|rfl|rfl|rfl|rfl|rfl|rfl
  all_goals
   go_enter func100,ntmps100
   go_wp2
   go_ret
   exact⟨qI (by rw[hr.out];rfl),rfl⟩
 ·have hn:∀x,x∈jO->(s.toList==x)=false:=fun x hx=>by
   simp only[beq_eq_false_iff_ne,ne_eq]
   exact fun e=>h2 ⟨x,hx,e⟩
  have g0:=hn [97,100,100] (by decide)
  have g1:=hn [115,117,98] (by decide)
  have g2:=hn [109,117,108] (by decide)
  have g3:=hn [97,110,100] (by decide)
  have g4:=hn [111,114] (by decide)
  have g5:=hn [120,111,114] (by decide)
  have g6:=hn [115,104,108] (by decide)
  have g7:=hn [115,104,114] (by decide)
  have g8:=hn [100,105,118] (by decide)
  have g9:=hn [114,101,109] (by decide)
  have g10:=hn [108,116] (by decide)
  have g11:=hn [101,113] (by decide)
  have hc:jO.contains s.toList=false:=by
   cases h:jO.contains s.toList with
   | false=>rfl
   | true=>exact absurd ⟨s.toList,by simpa using h,rfl⟩ h2
  by_cases h1:(s.toList==[110,111,116])=true
  ·have hr:Hid (zk s=1):=vH (by unfold zk;rw[hc,h1];rfl)
   clear hn h2 hc
   go_enter func100,ntmps100
   go_wp2
   go_ret
   exact⟨qI (by rw[hr.out];rfl),rfl⟩
  ·have h1':(s.toList==[110,111,116])=false:=by simpa using h1
   have hr:Hid (zk s=0):=vH (by unfold zk;rw[hc,h1'];rfl)
   clear hn h2 hc h1
   go_enter func100,ntmps100
   go_wp2
   go_ret
   exact⟨qI (by rw[hr.out];rfl),rfl⟩
theorem qaJ(T:Nat)(t:TV)(ns:List ByteArray)(cs:List qp)(o:zL)(w:World)(hT:TabAt w T t)(hK:qS w t.m.classes cs)(hkb:t.m.classes.n<4611686018427387904)(hN:qG w t.names ns)(hnb:t.names.n<4611686018427387904)(hL:zW w t.classes (qr ns cs)) :
 Calls prog 102 #[.pointer (some ⟨T,0,none⟩),.agg #[.string o.cls,.string o.fix]] w fun e w'=>e = .returned (.bool (zI ns cs o))/\BX w w':=by
 obtain⟨oc,ofx⟩:=o
 dsimp only
 have hb:BX w (w.alloc (.cells #[.string oc,.string ofx] 44)):=qi
 have hT0:TabAt (w.alloc (.cells #[.string oc,.string ofx] 44)) T t:=qd.below hT hb (qd.lt hT)
 have K1:=QD T t cs oc _ hT0 (hK.below hb) hkb
 have K2:=ZN T t ns ofx _ hT0 (hN.below hb) hnb
 have hll:(qr ns cs).length=cs.length:=by simp[qr]
 have hrg:=QC cs oc
 have K3:=qea T t (qr ns cs) (xB cs oc) (qv ns ofx) _ hT0 (hL.below hb) (by omega)
 change Calls _ _ _ _ fun e w'=>e = .returned (.int .i64 (xB cs oc))/\_ at K1
 have hin:(decide (0<=xB cs oc)&&((qr ns cs).getD (xB cs oc).toNat []).contains (qv ns ofx))=inC (qr ns cs) (xB cs oc) (qv ns ofx):=by
  unfold inC
  rw[vT (show xB cs oc<((qr ns cs).length:Int) by omega),Bool.and_true]
 rw[hin] at K3
 have hdef:Hid (zI ns cs ⟨oc,ofx⟩=(decide (0<=xB cs oc)&&(decide (ofx.toList = [])||inC (qr ns cs) (xB cs oc) (qv ns ofx)))):=vH rfl
 generalize inC (qr ns cs) (xB cs oc) (qv ns ofx)=z at *
 generalize qv ns ofx=rn at *
 generalize zI ns cs ⟨oc,ofx⟩=res at *
 generalize xB cs oc=ci at *
 clear hT hT0 hK hN hL hll hin
 by_cases h0:ci<0
 ·have hr:Hid (res=false):=vH (by rw[hdef.out,vF (by omega),Bool.false_and])
  clear hdef hrg
  go_enter func102,ntmps102
  go_wp2_with (go_at_call 99;refine K1.mono ?_;clear K1;rintro e W1 ⟨rfl,rfl⟩)
  go_ret
  exact⟨qq hr.out.symm,hb⟩
 ·cases he:(ofx.toList==[]) with
  |true=>
   have hr:Hid (res=true):=vH (by rw[hdef.out,vT (by omega),vT (by simpa using he)];rfl)
   clear hdef hrg
   go_enter func102,ntmps102
   go_wp2_with (go_at_call 99;refine K1.mono ?_;clear K1;rintro e W1 ⟨rfl,rfl⟩)
   go_ret
   exact⟨qq hr.out.symm,hb⟩
  |false=>
   have hr:Hid (res=z):=vH (by rw[hdef.out,vT (by omega),vF (by simpa using he)];simp)
   clear hdef hrg
   go_enter func102,ntmps102
   go_wp2_with (first
    |(go_at_call 99;refine K1.mono ?_;clear K1;rintro e W1 ⟨rfl,rfl⟩)
    |(go_at_call 24;refine K2.mono ?_;clear K2;rintro e W2 ⟨rfl,rfl⟩)
    |(go_at_call 26;refine K3.mono ?_;clear K3;rintro e W3 ⟨rfl,rfl⟩))
   go_ret
   exact⟨qq hr.out.symm,hb⟩
theorem qeb(T:Nat)(t:TV)(ns l:List ByteArray)(s:SlV)(w:World)(hT:TabAt w T t)(hN:qG w t.names ns)(hnb:t.names.n<4611686018427387904)(hl:qG w s l)(hbig:s.n<4611686018427387904) :
 Calls prog 104 #[.pointer (some ⟨T,0,none⟩),.slice s.a s.n s.c] w fun e w'=>e = .returned (.bool (zx ns l 64 && !qW [] (qh ns l)))/\w=w':=by
 have KR:=vH fun nm=>ZN T t ns nm w hT hN hnb
 have KF:=vH fun nm=>qcR s l nm w hl hbig
 have hiff:=vH (ZM ns l)
 generalize(zx ns l 64 && !qW [] (qh ns l))=z at *
 clear hT hN hnb
 obtain⟨a,n,c⟩:=s
 obtain⟨hn1,hcap,hl⟩:=hl
 dsimp only at hn1 hcap hl hbig KF ⊢
 subst hn1
 replace hl:=vH hl
 by_cases h64:(64:Int)<l.length
 ·have hr:Hid (z=false):=vH ((vD).2 fun h=>by have:=(hiff.out.1 h).1;omega)
  clear hiff KR KF
  go_enter func104,ntmps104
  go_wp2_with fail
  go_ret
  exact⟨qq hr.out.symm,rfl⟩
 ·go_enter func104,ntmps104
  go_wp2_with fail
  go_loop [5] (fun i=>∃k:Nat,k<=l.length/\i = .int .i64 k/\Hid (∀ (j:Nat) (x:ByteArray),j<k->l[j]?=some x->Xp ns l j x)) (fun i=>l.length-(intOf i).toNat)
  case atStart=>exact⟨0,vO _,rfl,vH (fun j x hj _=>absurd hj (Nat.not_lt_zero _))⟩
  case round=>
   obtain⟨k,hk,rfl,hY⟩:=hrel
   by_cases hlt:k<l.length
   ·obtain⟨x,hx⟩:∃x,l[k]?=some x:=⟨l[k],by rw[vE hlt]⟩
    obtain⟨b,o,rfl,hc⟩:=hl.out k x hx
    have K1:=KR.out x
    have K2:=KF.out x
    have hgood:Hid (Xp ns l k x↔0<=qv ns x/\(k:Int)<=qv l x):=vH Iff.rfl
    replace hx:=vH hx
    generalize qv ns x=rx at *
    generalize qv l x=fx at *
    by_cases h1:rx<0
    ·have hr:Hid (z=false):=vH ((vD).2 fun h=>by
      have:=(hgood.out.1 ((hiff.out.1 h).2 k x hx.out)).1
      omega)
     clear hiff KR KF hY hgood
     go_wp2_with (go_at_call 24;refine K1.mono ?_;clear K1;rintro e W1 ⟨rfl,rfl⟩)
     go_ret
     exact⟨qq hr.out.symm,rfl⟩
    ·by_cases h2:fx<(k:Int)
     ·have hr:Hid (z=false):=vH ((vD).2 fun h=>by
       have:=(hgood.out.1 ((hiff.out.1 h).2 k x hx.out)).2
       omega)
      clear hiff KR KF hY hgood
      go_wp2_with (first
       |(go_at_call 24;refine K1.mono ?_;clear K1;rintro e W1 ⟨rfl,rfl⟩)
       |(go_at_call 52;refine K2.mono ?_;clear K2;rintro e W1 ⟨rfl,rfl⟩))
      go_ret
      exact⟨qq hr.out.symm,rfl⟩
     ·have hY2:Hid (∀ (j:Nat) (y:ByteArray),j<k+1->l[j]?=some y->Xp ns l j y):=vH fun j y hj hy=>by
       by_cases hjk:j<k
       ·exact hY.out j y hjk hy
       ·obtain rfl:j=k:=by omega
        have hxo:=hx.out
        rw[hy] at hxo
        obtain rfl:=Option.some.inj hxo
        exact hgood.out.2 ⟨by omega,by omega⟩
      clear hY hgood
      go_wp2_with (first
       |(go_at_call 24;refine K1.mono ?_;clear K1;rintro e W1 ⟨rfl,rfl⟩)
       |(go_at_call 52;refine K2.mono ?_;clear K2;rintro e W1 ⟨rfl,rfl⟩))
      go_round
      case rel=>exact⟨k+1,by omega,by go_num,hY2⟩
      case measure=>simp[intOf];omega
   ·have hr:Hid (z=true):=vH (hiff.out.2 ⟨by omega,fun j x hj=>hY.out j x (by have:=(vS.1 hj).1;omega) hj⟩)
    clear hiff KR KF hY
    go_wp2_with fail
    go_ret
    exact⟨qq hr.out.symm,rfl⟩
def jV(ns l:List ByteArray):List Int:=(qh ns l).filter fun r=>decide (0<=r)
theorem qfF(ns l:List ByteArray)(k:Nat)(x:ByteArray)(hx:l[k]?=some x):jV ns (l.take (k+1))=jV ns (l.take k)++if 0<=qv ns x then [qv ns x] else []:=by
 unfold jV qh
 rw[vX,hx,kM,List.filter_append]
 congr 1
 by_cases h:0<=qv ns x
 ·simp[h]
 ·rw[if_neg h]
  simp only[Option.toList_some,List.map_cons,List.map_nil]
  rw[List.filter_cons,if_neg (by simpa using h)];rfl
theorem qje(ns l:List ByteArray):(jV ns l).length<=l.length:=by
 unfold jV qh
 exact vR (List.length_filter_le _ _) (by simp)
theorem Yz{ns l:List ByteArray}(h:∀x,x∈l->0<=qv ns x):jV ns l=qh ns l:=by
 unfold jV qh
 rw[List.filter_eq_self]
 intro r hr
 obtain⟨x,hx,rfl⟩:=List.mem_map.1 hr
 exact vT (h x hx)
def yT(w:World)(L:List Int)(e:Ending)(w':World):Prop:=
 ∃s:SlV,e = .returned (.slice s.a s.n s.c)/\w'.ownsRow w.heap.size 3 1 s.v L.length (L.map (Value.int .i64))/\BX w w'
theorem yT.ints{w:World}{L:List Int}{e:Ending}{w':World}(h:yT w L e w'):∃s:SlV,e = .returned (.slice s.a s.n s.c)/\qN w' s L/\BX w w':=by
 obtain⟨s,h1,h2,h3⟩:=h
 exact⟨s,h1,qm h2 (vO _),h3⟩
theorem qaf(T:Nat)(t:TV)(ns:List ByteArray)(s:SlV)(l:List ByteArray)(w:World)(hT:TabAt w T t)(hN:qG w t.names ns)(hnb:t.names.n<4611686018427387904)(hl:qG w s l)(hlb:l.length<=100000) :
 Calls prog 53 #[.pointer (some ⟨T,0,none⟩),.slice s.a s.n s.c] w (yT w (jV ns l)):=by
 obtain⟨a,n,c⟩:=s
 obtain⟨hn1,hcap,hl⟩:=hl
 dsimp only at hn1 hcap hl ⊢
 subst hn1
 replace hl:=vH hl
 have hT2:=vH hT
 have hN2:=vH hN
 clear hT hN
 go_enter func53,ntmps53
 go_wp2
 go_loopw [5,6] (fun v i wr=>∃ (k:Nat) (s:SlV),k<=l.length/\i = .int .i64 k/\v = .slice s.a s.n s.c/\Hid (wr.ownsRow w.heap.size 3 1 s.v (jV ns (l.take k)).length ((jV ns (l.take k)).map (Value.int .i64)))/\BX w wr) (fun _ i _=>l.length-(intOf i).toNat)
 case atStart=>exact⟨0,⟨none,0,0⟩,vO _,rfl,rfl,vH (kO _ _ _ _),kB _ _⟩
 case round=>
  obtain⟨k,⟨va,vn,vc⟩,hk,rfl,rfl,hrow,hB⟩:=hrel
  dsimp only at hrow ⊢
  have k0:(0:Int)<=k:=vN _
  by_cases hlt:k<l.length
  ·obtain⟨x,hx⟩:∃x,l[k]?=some x:=⟨l[k],by rw[vE hlt]⟩
   obtain⟨b,o,rfl,hc⟩:=hl.out k x hx
   have hc':=qb hB hc
   have K:=ZN T t ns x wr (qd.below hT2.out hB (qd.lt hT2.out)) (hN2.out.below hB) hnb
   have hsn:=vH (qfF ns l k x hx)
   have hlen:(jV ns (l.take k)).length<=k:=vR (qje _ _) (List.length_take_le _ _)
   have hBs:=hB.size
   clear hx hc
   generalize jV ns (l.take k)=L at hrow hsn hlen
   by_cases h0:0<=qv ns x
   ·have hs2:Hid (jV ns (l.take (k+1))=L++[qv ns x]):=vH (by rw[hsn.out,if_pos h0])
    generalize qv ns x=r at K hs2 h0
    obtain⟨i0,hi0,hz0,hz1,hz2⟩:=info_parts ji
    clear hsn
    go_wp2_with (first
     |(go_at_call 24;refine K.mono ?_;clear K;rintro e W1 ⟨rfl,rfl⟩)
     |(at_builtin;refine wpList_append_own_at _ rfl _ _ 55 rfl w.heap.size 3 i0 _ 1 8 underlying55 hi0 hz0 hz1 hz2 rfl (by decide) _ L.length (L.map (Value.int .i64)) rfl (hrow.out.alloc _) ⟨wr.heap.size,0,none⟩ 1 1 [.int .i64 r] rfl rfl (zo _ _ _ _ rfl) (by simp[Value.oneCell']) (by unfold maxLen;omega) (by omega) (by simp;omega) ?_;intro v' W7 hown7 hgrow _ hblk;obtain⟨g',cap',rfl⟩:=ownsRow_succ hown7))
    have hB7:BX w W7:=(hB.alloc hBs _).grown hgrow (by simp;omega) (fun g hg=>(qf hrow.out hg).1)
    replace hown7:Hid (W7.ownsRow w.heap.size 3 1 (SlV.v ⟨some ⟨g',0,none⟩,L.length+1,cap'⟩) (jV ns (l.take (k+1))).length ((jV ns (l.take (k+1))).map (Value.int .i64))):=vH (by
     rw[hs2.out,kA,kM];exact hown7)
    exact⟨⟨k+1,⟨some ⟨g',0,none⟩,L.length+1,cap'⟩,by omega,by go_num,rfl,hown7,hB7⟩,by simp[intOf];omega⟩
   ·have hs2:Hid (jV ns (l.take (k+1))=L):=vH (by rw[hsn.out,if_neg h0,List.append_nil])
    generalize qv ns x=r at K hs2 h0
    clear hsn
    go_wp2_with (go_at_call 24;refine K.mono ?_;clear K;rintro e W1 ⟨rfl,rfl⟩)
    exact⟨⟨k+1,⟨va,vn,vc⟩,by omega,by go_num,rfl,vH (by rw[hs2.out];exact hrow.out),hB⟩,by simp[intOf];omega⟩
  ·have hfin:yT w (jV ns l) (.returned (.slice va vn vc)) wr:=⟨⟨va,vn,vc⟩,rfl,by
    have:=hrow.out
    rw[List.take_of_length_le (by omega)] at this
    exact this,hB⟩
   replace hfin:=vH hfin
   clear hrow
   go_wp2_with fail
   go_ret
   exact hfin.out
structure jy(w:World)(T:Nat)(t:TV)(d:qz)(ns:List ByteArray)(ps:List Plc)(cls:List (List Int)):Prop where
 tab:TabAt w T t
 names:qG w t.names ns
 places:xg w t.cv ps
 len:ns.length=ps.length
 few:ps.length<=200
 kls:qS w t.m.classes d.classes
 ops:jP w t.m.ops d.ops
 args:qG w t.m.args d.args
 saved:qG w t.m.saved d.saved
 res:t.m.result=d.result
 sl:t.m.slots=d.slots
 kb:d.classes.length<=140737488355328
 ob:d.ops.length<=140737488355328
 ab:d.args.length<=140737488355328
 sb:d.saved.length<=140737488355328
 rb:∀k:qp,k∈d.classes->k.regs.length<=140737488355328
 cb:∀o:OpD,o∈d.ops->o.clob.length<=140737488355328
 ub:∀o:OpD,o∈d.ops->o.uses.length<=140737488355328
 lists:zW w t.classes cls
theorem jy.below{w w':World}{T:Nat}{t:TV}{d:qz}{ns:List ByteArray}{ps:List Plc}{cls:List (List Int)}(h:jy w T t d ns ps cls)(hb:BX w w'):jy w' T t d ns ps cls:=
 { h with tab:=qd.below h.tab hb (qd.lt h.tab),names:=h.names.below hb,places:=h.places.below hb,kls:=h.kls.below hb,ops:=h.ops.below hb,args:=h.args.below hb,saved:=h.saved.below hb,lists:=h.lists.below hb }
theorem jy.nbig{w:World}{T:Nat}{t:TV}{d:qz}{ns:List ByteArray}{ps:List Plc}{cls:List (List Int)}(h:jy w T t d ns ps cls):t.names.n<4611686018427387904:=by
 have:=h.names.1;have:=h.len;have:=h.few;omega
theorem jy.kbig{w:World}{T:Nat}{t:TV}{d:qz}{ns:List ByteArray}{ps:List Plc}{cls:List (List Int)}(h:jy w T t d ns ps cls):t.m.classes.n<4611686018427387904:=by
 have:=h.kls.1;have:=h.kb;omega
theorem qko(T:Nat)(t:TV)(d:qz)(ns:List ByteArray)(ps:List Plc)(cls:List (List Int))(k:Nat)(x:OpD)(w:World)(h:jy w T t d ns ps cls)(hx:d.ops[k]?=some x)(hcl:x.clob.length<=100000) :
 Calls prog 105 #[.pointer (some ⟨T,0,none⟩),.int .i64 k] w (yT w (jV ns x.clob)):=by
 obtain⟨b,o,ha,u,kk,hc0,hc1,hc2,hc3,hc4,hc5,hcu,hck⟩:=h.ops.2.2 k x hx
 have hlt:=(vS.1 hx).1
 have K:=qaf T t ns kk x.clob w h.tab h.names h.nbig hck hcl
 have c3:=qd.cell h.tab (j:=3) (v:=.slice t.m.ops.a t.m.ops.n t.m.ops.c) rfl
 have hn:=h.ops.1
 have hcap:=h.ops.2.1
 rw[ha] at c3
 have k0:(0:Int)<=k:=vN _
 have i1:k<t.m.ops.n:=by omega
 have i2:(k:Int)<t.m.ops.n:=by omega
 generalize t.m.ops.n=pn at *
 generalize t.m.ops.c=pc at *
 clear h hx hlt ha hn hcu hck hc0 hc1 hc2 hc3 hc4
 go_enter func105,ntmps105
 go_wp2_with (go_at_call 53;refine K.mono ?_;clear K;rintro e W1 ⟨s,rfl,hr,hb⟩;replace hr:=vH hr)
 go_ret
 exact⟨s,rfl,hr.out,hb⟩
theorem qkp(T:Nat)(t:TV)(d:qz)(ns:List ByteArray)(ps:List Plc)(cls:List (List Int))(w:World)(h:jy w T t d ns ps cls)(hab:d.args.length<=100000) :
 Calls prog 25 #[.pointer (some ⟨T,0,none⟩)] w (yT w (jV ns d.args)):=by
 have K:=qaf T t ns t.m.args d.args w h.tab h.names h.nbig h.args hab
 have c3:=qd.cell h.tab (j:=4) (v:=.slice t.m.args.a t.m.args.n t.m.args.c) rfl
 clear h
 go_enter func25,ntmps25
 go_wp2_with (go_at_call 53;refine K.mono ?_;clear K;rintro e W1 ⟨s,rfl,hr,hb⟩;replace hr:=vH hr)
 go_ret
 exact⟨s,rfl,hr.out,hb⟩
theorem qhu(T:Nat)(t:TV)(d:qz)(ns:List ByteArray)(ps:List Plc)(cls:List (List Int))(w:World)(h:jy w T t d ns ps cls) :
 Calls prog 22 #[.pointer (some ⟨T,0,none⟩)] w fun e w'=>e = .returned (.int .i64 (qv ns d.result))/\w=w':=by
 have K:=ZN T t ns t.m.result w h.tab h.names h.nbig
 rw[h.res] at K
 have c5:=qd.cell h.tab (j:=5) (v:=.string t.m.result) rfl
 rw[h.res] at c5
 clear h
 go_enter func22,ntmps22
 go_wp2_with (go_at_call 24;refine K.mono ?_;clear K;rintro e W1 ⟨rfl,rfl⟩)
 go_ret
 exact⟨rfl,rfl⟩
def qgu(w:World)(L:List Int)(e:Ending)(w':World):Prop:=∃s:SlV,e = .returned (.slice s.a s.n s.c)/\qN w' s L/\BX w w'
theorem qgi{ns:List ByteArray}{cs:List qp}{o:zL}(hg:zI ns cs o=true)(hf:o.fix.toList ≠ []):ql ns cs o = [qv ns o.fix]/\0<=qv ns o.fix∨ql ns cs o = [qv ns o.fix]/\qv ns o.fix = -1:=by
 unfold zI at hg
 simp only[Bool.and_eq_true,decide_eq_true_eq,Bool.or_eq_true] at hg
 obtain⟨h0,h1⟩:=hg
 have h2:=h1.resolve_left hf
 unfold inC at h2
 simp only[Bool.and_eq_true,decide_eq_true_eq] at h2
 have hr:=zO ns o.fix
 have he:ql ns cs o = [qv ns o.fix]:=by
  rw[ZK,if_neg (by omega),if_neg hf,if_pos h2.2]
 by_cases h:0<=qv ns o.fix
 ·exact .inl ⟨he,h⟩
 ·exact .inr ⟨he,by omega⟩
theorem ZO(T:Nat)(t:TV)(d:qz)(ns:List ByteArray)(ps:List Plc)(x:zL)(w:World)(h:jy w T t d ns ps (qr ns d.classes))(hg:zI ns d.classes x=true)(hnn:∀r,r∈ql ns d.classes x->0<=r) :
 Calls prog 55 #[.pointer (some ⟨T,0,none⟩),.agg #[.string x.cls,.string x.fix]] w (qgu w (ql ns d.classes x)):=by
 obtain⟨xc,xf⟩:=x
 dsimp only
 have hb0:BX w (w.alloc (.cells #[.string xc,.string xf] 44)):=qi
 have h0:=h.below hb0
 have K1:=QD T t d.classes xc _ h0.tab h0.kls h0.kbig
 change Calls _ _ _ _ fun e w'=>e = .returned (.int .i64 (xB d.classes xc))/\_ at K1
 have hll:(qr ns d.classes).length=d.classes.length:=by simp[qr]
 have hrg:=QC d.classes xc
 have hci:0<=xB d.classes xc:=by
  unfold zI at hg
  simp only[Bool.and_eq_true,decide_eq_true_eq] at hg
  exact hg.1
 cases he:(xf.toList==[]) with
 |true=>
  have hef:xf.toList = []:=by simpa using he
  have hch:ql ns d.classes ⟨xc,xf⟩=(qr ns d.classes).getD (xB d.classes xc).toNat []:=by
   rw[ZK]
   dsimp only
   rw[if_neg (by omega),if_pos hef]
  rw[hch]
  obtain⟨k,hk⟩:∃k:Nat,xB d.classes xc=k:=⟨(xB d.classes xc).toNat,by omega⟩
  rw[hk] at K1 hci hrg ⊢
  rw[Int.toNat_natCast]
  have hkl:k<(qr ns d.classes).length:=by omega
  obtain⟨l,hl⟩:∃l,(qr ns d.classes)[k]?=some l:=⟨_,vE hkl⟩
  have hgd:(qr ns d.classes).getD k []=l:=by rw[vG,hl];rfl
  rw[hgd]
  obtain⟨b,o,v,ha,hcell,hI,hlen,_,hcap⟩:=h0.lists.get hl
  have hn:=h0.lists.len
  have c10:=qd.cell h0.tab (j:=10) (v:=.slice t.classes.a t.classes.n t.classes.c) rfl
  rw[ha] at c10
  have i1:k<t.classes.n:=by omega
  have i2:(k:Int)<t.classes.n:=by omega
  generalize t.classes.n=pn at *
  generalize t.classes.c=pc at *
  replace hI:=vH hI
  clear h h0 hg hnn hll hch hk hkl hl hgd ha hn hrg hef
  go_enter func55,ntmps55
  go_wp2_with (go_at_call 99;refine K1.mono ?_;clear K1;rintro e W1 ⟨rfl,rfl⟩)
  go_ret
  exact⟨v,rfl,hI.out,hb0⟩
 |false=>
  have hef:xf.toList ≠ []:=by simpa using he
  have hch:ql ns d.classes ⟨xc,xf⟩ = [qv ns xf]/\0<=qv ns xf:=by
   rcases qgi hg hef with h1|⟨h1,h2⟩
   ·exact h1
   ·have:=hnn (qv ns xf) (by rw[h1];simp)
    exact⟨h1,this⟩
  have hls:jV ns [xf] = [qv ns xf]:=by
   unfold jV qh
   simp[hch.2]
  have hbW:BX w ((w.alloc (.cells #[.string xc,.string xf] 44)).alloc (.cells #[.string xf] 9)):=hb0.alloc (by simp) _
  have h1:=h.below hbW
  have K2:=qaf T t ns ⟨some ⟨w.heap.size+1,0,none⟩,1,1⟩ [xf] _ h1.tab h1.names h1.nbig ⟨rfl,vL _,fun j x hj=>⟨_,_,rfl,by
   cases j with
   |zero=>
    cases hj
    have:=zr (w.alloc (.cells #[.string xc,.string xf] 44)) #[.string xf] 9 (j:=0) rfl
    rw[vZ] at this;exact this
   | succ j=>simp at hj⟩⟩ (by simp)
  rw[hls] at K2
  rw[hch.1]
  dsimp only at K2
  generalize xB d.classes xc=ci at *
  generalize qv ns xf=rn at *
  have hci2:¬ ci<0:=by omega
  clear h h0 h1 hg hnn hll hch hls hef hrg
  go_enter func55,ntmps55
  go_wp2_with (first
   |(go_at_call 99;refine K1.mono ?_;clear K1;rintro e W1 ⟨rfl,rfl⟩)
   |(go_at_call 53;go_loud (refine K2.mono ?_;clear K2;rintro e W1 ⟨s,rfl,hr,hb⟩;replace hr:=vH hr)))
  go_ret
  exact⟨s,rfl,qm hr.out (vO _),hbW.trans (hb.mono (by simp;omega))⟩
def xY(ps:List Plc)(L:List Int)(r:Int):Bool:=L.all fun c=>!zR (plc ps c) (plc ps r)
theorem qec{ps:List Plc}{L:List Int}{r c:Int}{j:Nat}(h:xY ps (L.take j) r=true)(hj:L[j]?=some c)(hc:zR (plc ps c) (plc ps r)=false):xY ps (L.take (j+1)) r=true:=by
 unfold xY at h ⊢
 rw[vX,hj,List.all_append,h]
 simp[hc]
theorem qfG{ps:List Plc}{L:List Int}{r c:Int}{j:Nat}(hj:L[j]?=some c)(hc:zR (plc ps c) (plc ps r)=true):xY ps L r=false:=by
 unfold xY
 rw[vD]
 intro h
 have:=vV.1 h c (vM hj)
 rw[hc] at this;cases this
theorem qkq{ns:List ByteArray}{ps:List Plc}{l:List ByteArray}(hs:ns.length=ps.length)(h:∀y,y∈l->0<=qv ns y):∀r,r∈qh ns l->Num ps r:=fun r hr=>by
 obtain⟨y,hy,rfl⟩:=List.mem_map.1 hr
 have:=zO ns y
 exact⟨h y hy,by omega⟩
theorem qed(T:Nat)(t:TV)(d:qz)(ns:List ByteArray)(ps:List Plc)(cls:List (List Int))(k:Nat)(x:OpD)(r:Int)(w:World)(h:jy w T t d ns ps cls)(hx:d.ops[k]?=some x)(hr:Num ps r)(hk:∀y,y∈x.clob->0<=qv ns y)(hcl:x.clob.length<=100000) :
 Calls prog 57 #[.pointer (some ⟨T,0,none⟩),.int .i64 k,.int .i64 r] w fun e w'=>e = .returned (.bool (xY ps (qh ns x.clob) r))/\BX w w':=by
 have K:=qko T t d ns ps cls k x w h hx hcl
 have hcb:=hcl
 rw[Yz hk] at K
 have hnum:=qkq h.len hk
 have hLl:(qh ns x.clob).length<=100000:=by simp[qh];exact hcb
 generalize qh ns x.clob=L at *
 have h2:=vH h
 replace hnum:=vH hnum
 clear h hx hk hcb
 go_enter func57,ntmps57
 go_wp2_with (go_at_call 105;refine K.mono ?_;clear K;rintro e W1 hpost;obtain⟨⟨sa,sn,sc⟩,rfl,hI,hb1⟩:=hpost.ints;clear hpost)
 have hsn:=hI.len
 dsimp only at hsn
 subst hsn
 replace hI:=vH hI
 go_loopw [8] (fun i wr=>∃j:Nat,j<=L.length/\i = .int .i64 j/\Hid (xY ps (L.take j) r=true)/\BX W1 wr) (fun i _=>L.length-(intOf i).toNat)
 case atStart=>exact⟨0,vO _,rfl,vH rfl,kB _ _⟩
 case round=>
  obtain⟨j,hj,rfl,hA,hB⟩:=hrel
  have j0:(0:Int)<=j:=vN _
  by_cases hlt:j<L.length
  ·obtain⟨c,hc⟩:∃c,L[j]?=some c:=⟨L[j],by rw[vE hlt]⟩
   obtain⟨b,o,rfl,hcell⟩:=hI.out.at_.2.2 j c hc
   replace hcell:=qb hB hcell
   have hAll:=hb1.trans (hB.mono hb1.size)
   have h3:=h2.out.below hAll
   have K:=Zn T t ps c r wr h3.tab h3.places (hnum.out c (vM hc)) hr
   have j1:(j:Int)<L.length:=by omega
   clear h3
   cases hl:zR (plc ps c) (plc ps r) with
   |true=>
    have hres:Hid (xY ps L r=false):=vH (qfG hc hl)
    rw[hl] at K
    clear hl hc hA
    go_wp2_with fail
    go_at_call 23
    refine K.mono ?_
    clear K
    rintro e W3 ⟨rfl,hb3⟩
    go_wp2_with fail
    go_ret
    exact⟨qq hres.out.symm,hAll.trans (hb3.mono hAll.size)⟩
   |false=>
    have hA2:=vH (qec hA.out hc hl)
    rw[hl] at K
    clear hl hc hA
    go_wp2_with fail
    go_at_call 23
    refine K.mono ?_
    clear K
    rintro e W3 ⟨rfl,hb3⟩
    go_wp2_with fail
    exact⟨⟨j+1,by omega,by go_num,hA2,hB.trans (hb3.mono hB.size)⟩,by simp[intOf];omega⟩
  ·have hres:Hid (xY ps L r=true):=vH (by
    have:=hA.out
    rw[List.take_of_length_le (by omega)] at this;exact this)
   clear hA
   go_wp2_with fail
   go_ret
   exact⟨qq hres.out.symm,hb1.trans (hB.mono hb1.size)⟩
theorem qkr(T:Nat)(t:TV)(d:qz)(ns:List ByteArray)(ps:List Plc)(k:Nat)(x:OpD)(r:Int)(w:World)(h:jy w T t d ns ps (qr ns d.classes))(hx:d.ops[k]?=some x)(hr:Num ps r)(hk:∀y,y∈x.clob->0<=qv ns y)
 (hg:zI ns d.classes x.d=true) (hnn:∀r,r∈ql ns d.classes x.d->0<=r) (hlen:(ql ns d.classes x.d).length<=100000) (hcl:x.clob.length<=100000) :
 Calls prog 56 #[.pointer (some ⟨T,0,none⟩),.int .i64 k,.int .i64 0,.int .i64 r] w fun e w'=>e = .returned (.bool ((ql ns d.classes x.d).contains r&&xY ps (qh ns x.clob) r))/\BX w w':=by
 obtain⟨b,o,ha,u,kk,hc0,hc1,hc2,hc3,hc4,hc5,hcu,hck⟩:=h.ops.2.2 k x hx
 have hlt:=(vS.1 hx).1
 have K1:=fun W (hb:BX w W)=>ZO T t d ns ps x.d W (h.below hb) hg hnn
 have K2:=fun W (hb:BX w W)=>qed T t d ns ps _ k x r W (h.below hb) hx hr hk hcl
 have c3:=qd.cell h.tab (j:=3) (v:=.slice t.m.ops.a t.m.ops.n t.m.ops.c) rfl
 have hn:=h.ops.1
 have hcap:=h.ops.2.1
 have hun:=hcu.1
 rw[ha] at c3
 have k0:(0:Int)<=k:=vN _
 have i1:k<t.m.ops.n:=by omega
 have i2:(k:Int)<t.m.ops.n:=by omega
 have u0:¬ (u.n:Int)<0:=by omega
 generalize t.m.ops.n=pn at *
 generalize t.m.ops.c=pc at *
 generalize xY ps (qh ns x.clob) r=q at *
 generalize ql ns d.classes x.d=L at *
 obtain⟨xn,⟨xc,xf⟩,xu,xt,xk⟩:=x
 dsimp only at hc0 hc1 hc2 hc3 hc4 hc5 K1
 obtain⟨cq,hcq⟩:∃cq,cq=L.contains r:=⟨_,rfl⟩
 rw[←hcq]
 replace hcq:=vH hcq
 clear h hx hlt ha hn hcu hck hg hnn hk hun
 go_enter func56,ntmps56
 go_wp2_with fail
 go_at_call 55
 refine(K1 _ (kB _ _)).mono ?_
 rintro e W1 ⟨s,rfl,hI,hb1⟩
 have K3:=qjb s L r W1 hI.at_ (by have:=hI.len;omega)
 replace hI:=vH hI
 rw[←hcq.out] at K3
 clear hcq
 cases cq
 all_goals
  go_wp2_with (first
   |(go_at_call 54;refine K3.mono ?_;clear K3;rintro e W2 ⟨rfl,rfl⟩)
   |(go_at_call 57;refine(K2 _ hb1).mono ?_;clear K2;rintro e W3 ⟨rfl,hb3⟩))
  go_ret
  exact⟨qq (by rfl),hb1.trans (hb3.mono hb1.size)⟩
theorem xR{α:Type}{p:α->Bool}{l:List α}{k:Nat}{a:α}(h:(l.take k).any p=false)(hk:l[k]?=some a)(ha:p a=false):(l.take (k+1)).any p=false:=by
 rw[vX,hk,List.any_append,h]
 simp[ha]
theorem yO{α:Type}{p:α->Bool}{l:List α}{k:Nat}{a:α}(hk:l[k]?=some a)(ha:p a=true):l.any p=true:=vU.2 ⟨a,vM hk,ha⟩
theorem XO{α:Type}{p:α->Bool}{l:List α}{k:Nat}(h:(l.take k).any p=false)(hk:l.length<=k):l.any p=false:=by
 rwa [List.take_of_length_le hk] at h
def qee(ps:List Plc)(cls:List (List Int))(a b:Int):Bool:=
 (decide (0<=a)&&decide (0<=b)&&decide (a<cls.length)&&decide (b<cls.length))&&qP ps [cls.getD a.toNat [],cls.getD b.toNat []]
theorem qef(T:Nat)(t:TV)(d:qz)(ns:List ByteArray)(ps:List Plc)(cls:List (List Int))(a b:Int)(w:World)(h:jy w T t d ns ps cls)(ho:a<0∨b<0∨(cls.length:Int)<=a∨(cls.length:Int)<=b) :
 Calls prog 28 #[.pointer (some ⟨T,0,none⟩),.int .i64 a,.int .i64 b] w fun e w'=>e = .returned (.bool false)/\w=w':=by
 have c10:=qd.cell h.tab (j:=10) (v:=.slice t.classes.a t.classes.n t.classes.c) rfl
 have hn:=h.lists.len
 rw[←hn] at ho
 generalize t.classes.n=pn at *
 generalize t.classes.c=pc at *
 generalize t.classes.a=pa at *
 clear h hn
 by_cases ha:a<0
 ·clear ho
  go_enter func28,ntmps28
  go_wp2_with fail
  go_ret
  exact⟨rfl,rfl⟩
 ·by_cases hb:b<0
  ·clear ho
   go_enter func28,ntmps28
   go_wp2_with fail
   go_ret
   exact⟨rfl,rfl⟩
  ·by_cases ha2:(pn:Int)<=a
   ·clear ho
    go_enter func28,ntmps28
    go_wp2_with fail
    go_ret
    exact⟨rfl,rfl⟩
   ·have hb2:(pn:Int)<=b:=by omega
    clear ho
    go_enter func28,ntmps28
    go_wp2_with fail
    go_ret
    exact⟨rfl,rfl⟩
theorem qfH(T:Nat)(t:TV)(d:qz)(ns:List ByteArray)(ps:List Plc)(cls:List (List Int))(ia ib:Nat)(A B:List Int)(w:World)(h:jy w T t d ns ps cls)(hnum:∀l,l∈cls->∀x,x∈l->Num ps x)(hA:cls[ia]?=some A)(hB:cls[ib]?=some B) :
 Calls prog 28 #[.pointer (some ⟨T,0,none⟩),.int .i64 ia,.int .i64 ib] w fun e w'=>e = .returned (.bool (A.any fun x=>B.any fun y=>!zR (plc ps x) (plc ps y)))/\BX w w':=by
 have hnA:=hnum A (vM hA)
 have hnB:=hnum B (vM hB)
 obtain⟨cb,co,vA,haA,hcA,hIA,hlA,_,_⟩:=h.lists.get hA
 obtain⟨cb',co',vB,haB,hcB,hIB,hlB,_,hcap⟩:=h.lists.get hB
 rw[haA] at haB
 cases haB
 have c10:=qd.cell h.tab (j:=10) (v:=.slice t.classes.a t.classes.n t.classes.c) rfl
 have hn:=h.lists.len
 have hlt1:=(vS.1 hA).1
 have hlt2:=(vS.1 hB).1
 rw[haA] at c10
 have a0:(0:Int)<=ia:=vN _
 have b0:(0:Int)<=ib:=vN _
 have a1:ia<t.classes.n:=by omega
 have b1:ib<t.classes.n:=by omega
 have a2:(ia:Int)<t.classes.n:=by omega
 have b2:(ib:Int)<t.classes.n:=by omega
 have nA:=hIA.len
 have nB:=hIB.len
 obtain⟨vAa,vAn,vAc⟩:=vA
 obtain⟨vBa,vBn,vBc⟩:=vB
 dsimp only at nA nB hcA hcB
 subst nA nB
 generalize t.classes.n=pn at *
 generalize t.classes.c=pc at *
 have h2:=vH h
 replace hnA:=vH hnA
 replace hnB:=vH hnB
 replace hIA:=vH hIA
 replace hIB:=vH hIB
 clear h hnum hA hB haA hn hlt1 hlt2
 go_enter func28,ntmps28
 go_wp2_with fail
 go_loopw [7,8] (fun i _ wr=>∃j:Nat,j<=A.length/\i = .int .i64 j/\Hid (((A.take j).any fun x=>B.any fun y=>!zR (plc ps x) (plc ps y))=false)/\BX w wr) (fun i _ _=>A.length-(intOf i).toNat)
 case atStart=>exact⟨0,vO _,rfl,vH rfl,kB _ _⟩
 case round=>
  obtain⟨j,hj,rfl,hE,hBl⟩:=hrel
  have j0:(0:Int)<=j:=vN _
  have e10:=qb hBl c10
  have eA:=qb hBl hcA
  have eB:=qb hBl hcB
  by_cases hlt:j<A.length
  ·obtain⟨x,hx⟩:∃x,A[j]?=some x:=⟨A[j],by rw[vE hlt]⟩
   obtain⟨ba,oa,rfl,hcx⟩:=hIA.out.at_.2.2 j x hx
   have hnx:=hnA.out x (vM hx)
   replace hx:=vH hx
   replace hnx:=vH hnx
   obtain⟨wo,rfl⟩:∃wo:World,wo=wr:=⟨_,rfl⟩
   go_wp2_with fail
   go_loopw [8] (fun i wr=>∃k:Nat,k<=B.length/\i = .int .i64 k/\Hid (((B.take k).any fun y=>!zR (plc ps x) (plc ps y))=false)/\BX w wr) (fun i _=>B.length-(intOf i).toNat)
   case atStart=>exact⟨0,vO _,rfl,vH rfl,hBl⟩
   case round=>
    obtain⟨k,hk,rfl,hF,hBk⟩:=hrel
    have k0:(0:Int)<=k:=vN _
    clear e10 eA eB hBl
    have e10:=qb hBk c10
    have eA:=qb hBk hcA
    have eB:=qb hBk hcB
    by_cases hlk:k<B.length
    ·obtain⟨y,hy⟩:∃y,B[k]?=some y:=⟨B[k],by rw[vE hlk]⟩
     obtain⟨bb,ob,rfl,hcy⟩:=hIB.out.at_.2.2 k y hy
     have hny:=hnB.out y (vM hy)
     have ex:=qb hBk hcx
     have ey:=qb hBk hcy
     have h3:=h2.out.below hBk
     have j1:(j:Int)<A.length:=by omega
     have k1:(k:Int)<B.length:=by omega
     have K:=fun W (hb:BX wr W)=>Zn T t ps x y W (h3.below hb).tab (h3.below hb).places hnx.out hny
     cases hl:zR (plc ps x) (plc ps y) with
     |true=>
      have hF2:=vH (xR (p:=fun y=>!zR (plc ps x) (plc ps y)) hF.out hy (by simp[hl]))
      rw[hl] at K
      clear h3 hl hy hny hF
      go_wp2_with fail
      go_region_held3 (fun w'=>w'.cell? ⟨T,10,none⟩=some (.slice (some ⟨cb,co,none⟩) pn pc)/\w'.cell? ⟨cb,co+ia,none⟩=some (.slice (some ⟨ba,oa,none⟩) A.length vAc)/\w'.cell? ⟨cb,co+ib,none⟩=some (.slice (some ⟨bb,ob,none⟩) B.length vBc)/\w'.cell? ⟨ba,oa+j,none⟩=some (.int .i64 x)/\w'.cell? ⟨bb,ob+k,none⟩=some (.int .i64 y))
       (go_keep)
       ((go_at_call 23;refine(K _ (kB _ _).drew).mono ?_;clear K;rintro e W2 ⟨rfl,hb2⟩;have q0:=qb hb2 e10;have q1:=qb hb2 eA;have q2:=qb hb2 eB;have q3:=qb hb2 ex;have q4:=qb hb2 ey))
      go_wp2_with fail
      exact⟨⟨k+1,by omega,by go_num,hF2,hBk.trans (((kB _ _).drew.trans hb2).mono hBk.size)⟩,by simp[intOf];omega⟩
     |false=>
      have hF2:Hid ((A.any fun x=>B.any fun y=>!zR (plc ps x) (plc ps y))=true):=vH (yO hx.out (yO hy (by simp[hl])))
      rw[hl] at K
      clear h3 hl hy hny hF
      go_wp2_with fail
      go_region_held3 (fun w'=>w'.cell? ⟨T,10,none⟩=some (.slice (some ⟨cb,co,none⟩) pn pc)/\w'.cell? ⟨cb,co+ia,none⟩=some (.slice (some ⟨ba,oa,none⟩) A.length vAc)/\w'.cell? ⟨cb,co+ib,none⟩=some (.slice (some ⟨bb,ob,none⟩) B.length vBc)/\w'.cell? ⟨ba,oa+j,none⟩=some (.int .i64 x)/\w'.cell? ⟨bb,ob+k,none⟩=some (.int .i64 y))
       (go_keep)
       ((go_at_call 23;refine(K _ (kB _ _).drew).mono ?_;clear K;rintro e W2 ⟨rfl,hb2⟩;have q0:=qb hb2 e10;have q1:=qb hb2 eA;have q2:=qb hb2 eB;have q3:=qb hb2 ex;have q4:=qb hb2 ey))
      go_wp2_with fail
      go_ret
      exact⟨qq hF2.out.symm,hBk.trans (((kB _ _).drew.trans hb2).mono hBk.size)⟩
    ·have hE2:=vH (xR (p:=fun x=>B.any fun y=>!zR (plc ps x) (plc ps y)) hE.out hx.out (XO hF.out (by omega)))
     clear hF
     go_wp2_with fail
     exact⟨⟨j+1,by omega,by go_num,hE2,hBk⟩,by simp[intOf];omega⟩
  ·have hres:=vH (XO hE.out (by omega))
   clear hE
   go_wp2_with fail
   go_ret
   exact⟨qq hres.out.symm,hBl⟩
theorem qks(T:Nat)(t:TV)(d:qz)(ns:List ByteArray)(ps:List Plc)(cls:List (List Int))(a b:Int)(w:World)(h:jy w T t d ns ps cls)(hnum:∀l,l∈cls->∀x,x∈l->Num ps x) :
 Calls prog 28 #[.pointer (some ⟨T,0,none⟩),.int .i64 a,.int .i64 b] w fun e w'=>e = .returned (.bool (qee ps cls a b))/\BX w w':=by
 by_cases ho:a<0∨b<0∨(cls.length:Int)<=a∨(cls.length:Int)<=b
 ·refine(qef T t d ns ps cls a b w h ho).mono fun e w' ⟨he,hw⟩=>⟨?_,by subst hw;exact kB _ _⟩
  rw[he]
  refine qq ?_
  unfold qee
  rcases ho with ho|ho|ho|ho
  ·rw[vF (by omega)];simp
  ·rw[vF (p:=0<=b) (by omega)];simp
  ·rw[vF (p:=a<(cls.length:Int)) (by omega)];simp
  ·rw[vF (p:=b<(cls.length:Int)) (by omega)];simp
 ·obtain⟨i,rfl⟩:∃i:Nat,a=i:=⟨a.toNat,by omega⟩
  obtain⟨j,rfl⟩:∃j:Nat,b=j:=⟨b.toNat,by omega⟩
  have hi:i<cls.length:=by omega
  have hj:j<cls.length:=by omega
  refine(qfH T t d ns ps cls i j cls[i] cls[j] w h hnum (vE hi) (vE hj)).mono fun e w' ⟨he,hw⟩=>⟨?_,hw⟩
  rw[he]
  refine qq ?_
  unfold qee
  rw[vT (by omega),vT (by omega),vT (by omega),vT (by omega),Ql]
  simp[hi,hj]
def ZW(ns:List ByteArray)(ps:List Plc)(l:List ByteArray):Bool:=!(qh ns l).contains (-1)&&zS ps (qh ns l)
theorem ZP(ns:List ByteArray)(ps:List Plc)(l:List ByteArray):ZW ns ps l=true↔∀ (j:Nat) (x:ByteArray),l[j]?=some x->yK ns ps l j x:=by
 rw[←Yx]
 unfold ZW
 rw[Bool.and_eq_true,Bool.not_eq_true']
theorem qbY{ns:List ByteArray}{ps:List Plc}{l:List ByteArray}{j:Nat}{x:ByteArray}(hj:l[j]?=some x)(h:¬ yK ns ps l j x):ZW ns ps l=false:=
 vD.2 fun ht=>h ((ZP ns ps l).1 ht j x hj)
theorem qeg(T:Nat)(t:TV)(d:qz)(ns:List ByteArray)(ps:List Plc)(cls:List (List Int))(s:SlV)(l:List ByteArray)(w:World)(h:jy w T t d ns ps cls)(hl:qG w s l)(hlb:l.length<=140737488355328) :
 Calls prog 21 #[.pointer (some ⟨T,0,none⟩),.slice s.a s.n s.c] w fun e w'=>e = .returned (.bool (ZW ns ps l))/\BX w w':=by
 obtain⟨a,n,c⟩:=s
 obtain⟨hn1,hcap,hl⟩:=hl
 dsimp only at hn1 hcap hl ⊢
 subst hn1
 replace hl:=vH hl
 have h2:=vH h
 clear h
 go_enter func21,ntmps21
 go_wp2_with fail
 go_loopw [5] (fun i wr=>∃j:Nat,j<=l.length/\i = .int .i64 j/\Hid (∀ (j':Nat) (x:ByteArray),j'<j->l[j']?=some x->yK ns ps l j' x)/\BX w wr) (fun i _=>l.length-(intOf i).toNat)
 case atStart=>exact⟨0,vO _,rfl,vH (fun j' x h=>absurd h (Nat.not_lt_zero _)),kB _ _⟩
 case round=>
  obtain⟨j,hj,rfl,hE,hBl⟩:=hrel
  have j0:(0:Int)<=j:=vN _
  by_cases hlt:j<l.length
  ·obtain⟨x,hx⟩:∃x,l[j]?=some x:=⟨l[j],by rw[vE hlt]⟩
   obtain⟨b,o,rfl,hcx⟩:=hl.out j x hx
   have ex:=qb hBl hcx
   have h3:=h2.out.below hBl
   have K:=ZN T t ns x wr h3.tab h3.names h3.nbig
   have hrg:=zO ns x
   have j1:(j:Int)<l.length:=by omega
   replace hx:=vH hx
   clear h3
   obtain⟨wo,rfl⟩:∃wo:World,wo=wr:=⟨_,rfl⟩
   by_cases hr0:qv ns x<0
   ·have hres:Hid (ZW ns ps l=false):=vH (qbY hx.out fun hg=>by have:=hg.1;omega)
    clear hE hx
    generalize qv ns x=r at *
    go_wp2_with (go_at_call 24;refine K.mono ?_;clear K;rintro e W1 ⟨rfl,rfl⟩)
    go_ret
    exact⟨qq hres.out.symm,hBl⟩
   ·have hlen:=h2.out.len
    have hnx:Num ps (qv ns x):=⟨by omega,by omega⟩
    replace hnx:=vH hnx
    obtain⟨r,hr⟩:∃r,r=qv ns x:=⟨_,rfl⟩
    rw[←hr] at K hr0 hrg hnx
    replace hr:=vH hr
    clear hlen
    go_wp2_with (go_at_call 24;refine K.mono ?_;clear K;rintro e W1 ⟨rfl,rfl⟩)
    go_loopw [7] (fun i wr=>∃k:Nat,k<=j/\i = .int .i64 k/\Hid (∀ (k':Nat) (y:ByteArray),k'<k->l[k']?=some y->zR (plc ps r) (plc ps (qv ns y))=false)/\BX w wr) (fun i _=>j-(intOf i).toNat)
    case atStart=>exact⟨0,vO _,rfl,vH (fun k' y h=>absurd h (Nat.not_lt_zero _)),hBl⟩
    case round=>
     obtain⟨k,hk,rfl,hF,hBk⟩:=hrel
     have k0:(0:Int)<=k:=vN _
     by_cases hlk:k<j
     ·obtain⟨y,hy⟩:∃y,l[k]?=some y:=⟨l[k],by rw[vE (by omega)]⟩
      obtain⟨b',o',hbo,hcy⟩:=hl.out k y hy
      cases hbo
      have ey:=qb hBk hcy
      have h4:=h2.out.below hBk
      have hgy:=hE.out k y hlk hy
      have hry:=zO ns y
      have hlen:=h4.len
      have hny:Num ps (qv ns y):=⟨hgy.1,by omega⟩
      have K3:=ZN T t ns y wr h4.tab h4.names h4.nbig
      have K4:=Zn T t ps r (qv ns y) wr h4.tab h4.places hnx.out hny
      have k1:(k:Int)<l.length:=by omega
      clear h4 hgy hry hlen hny
      cases hlp:zR (plc ps r) (plc ps (qv ns y)) with
      |true=>
       have hres:Hid (ZW ns ps l=false):=vH (qbY hx.out fun hg=>by have:=hg.2 k y hlk hy;rw[←hr.out,hlp] at this;cases this)
       rw[hlp] at K4
       clear hE hF hlp hy
       generalize qv ns y=ry at *
       go_wp2_with (first
        |(go_at_call 24;refine K3.mono ?_;clear K3;rintro e W1 ⟨rfl,rfl⟩)
        |(go_at_call 23;refine K4.mono ?_;clear K4;rintro e W2 ⟨rfl,hb2⟩))
       go_ret
       exact⟨qq hres.out.symm,hBk.trans (hb2.mono hBk.size)⟩
      |false=>
       have hF2:Hid (∀ (k':Nat) (y:ByteArray),k'<k+1->l[k']?=some y->zR (plc ps r) (plc ps (qv ns y))=false):=vH (fun k' y' hk' hy'=>by
        by_cases h:k'<k
        ·exact hF.out k' y' h hy'
        ·obtain rfl:k'=k:=by omega
         rw[hy] at hy';cases hy';exact hlp)
       rw[hlp] at K4
       clear hF hlp hy
       generalize qv ns y=ry at K3 K4
       go_wp2_with (first
        |(go_at_call 24;refine K3.mono ?_;clear K3;rintro e W1 ⟨rfl,rfl⟩)
        |(go_at_call 23;refine K4.mono ?_;clear K4;rintro e W2 ⟨rfl,hb2⟩))
       exact⟨⟨k+1,by omega,by go_num,hF2,hBk.trans (hb2.mono hBk.size)⟩,by simp[intOf];omega⟩
     ·have hE2:Hid (∀ (j':Nat) (x:ByteArray),j'<j+1->l[j']?=some x->yK ns ps l j' x):=vH (fun j' x' hj' hx'=>by
       by_cases h:j'<j
       ·exact hE.out j' x' h hx'
       ·obtain rfl:j'=j:=by omega
        have:=hx.out
        rw[this] at hx';cases hx'
        refine⟨by have:=hr.out;omega,fun k' y hk' hy=>?_⟩
        have:=hF.out k' y (by omega) hy
        rw[hr.out] at this;exact this)
      clear hE hF
      go_wp2_with fail
      exact⟨⟨j+1,by omega,by go_num,hE2,hBk⟩,by simp[intOf];omega⟩
  ·have hres:Hid (ZW ns ps l=true):=vH ((ZP ns ps l).2 fun j' x hx=>hE.out j' x (by have:=(vS.1 hx).1;omega) hx)
   clear hE
   go_wp2_with fail
   go_ret
   exact⟨qq hres.out.symm,hBl⟩
def QJ(ps:List Plc)(a b:Int):Bool:=(decide (0<=a)&&decide (0<=b)&&decide (a<ps.length)&&decide (b<ps.length))&&zR (plc ps a) (plc ps b)
theorem qbA(T:Nat)(t:TV)(ps:List Plc)(a b:Int)(w:World)(hT:TabAt w T t)(hP:xg w t.cv ps)(ho:a<0∨b<0∨(ps.length:Int)<=a∨(ps.length:Int)<=b) :
 Calls prog 23 #[.pointer (some ⟨T,0,none⟩),.int .i64 a,.int .i64 b] w fun e w'=>e = .returned (.bool false)/\BX w w':=by
 have c9:=qd.cell hT (j:=9) (v:=.slice t.places.a t.places.n t.places.c) rfl
 have hn:=hP.len
 have ea:t.cv.places=t.places:=rfl
 rw[ea] at hn
 rw[←hn] at ho
 generalize t.places.n=pn at *
 generalize t.places.c=pc at *
 generalize t.places.a=pa at *
 clear hT hP hn ea
 by_cases ha:a<0
 ·have d1:decide (0<=a)=false:=by simpa using ha
  clear ho
  go_enter func23,ntmps23
  go_wp2_with fail
  go_quiet (fail)
  all_goals
   go_wp2_with fail
   go_ret
   exact⟨rfl,below_drewN (kB _ _) _⟩
 ·have d1:decide (0<=a)=true:=by simp;omega
  by_cases hb:b<0
  ·have d2:decide (0<=b)=false:=by simpa using hb
   clear ho
   go_enter func23,ntmps23
   go_wp2_with fail
   go_quiet (fail)
   all_goals
    go_wp2_with fail
    go_ret
    exact⟨rfl,below_drewN (kB _ _) _⟩
  ·have d2:decide (0<=b)=true:=by simp;omega
   by_cases ha2:(pn:Int)<=a
   ·have d3:decide (a<(pn:Int))=false:=by simpa using ha2
    clear ho
    go_enter func23,ntmps23
    go_wp2_with fail
    go_quiet (fail)
    all_goals
     go_wp2_with fail
     go_ret
     exact⟨rfl,below_drewN (kB _ _) _⟩
   ·have d3:decide (a<(pn:Int))=true:=by simp;omega
    have d4:decide (b<(pn:Int))=false:=by simp;omega
    clear ho
    go_enter func23,ntmps23
    go_wp2_with fail
    go_quiet (fail)
    all_goals
     go_wp2_with fail
     go_ret
     exact⟨rfl,below_drewN (kB _ _) _⟩
theorem qaK(T:Nat)(t:TV)(ps:List Plc)(a b:Int)(w:World)(hT:TabAt w T t)(hP:xg w t.cv ps) :
 Calls prog 23 #[.pointer (some ⟨T,0,none⟩),.int .i64 a,.int .i64 b] w fun e w'=>e = .returned (.bool (QJ ps a b))/\BX w w':=by
 by_cases ho:a<0∨b<0∨(ps.length:Int)<=a∨(ps.length:Int)<=b
 ·refine(qbA T t ps a b w hT hP ho).mono fun e w' ⟨he,hw⟩=>⟨?_,hw⟩
  rw[he]
  refine qq ?_
  unfold QJ
  rcases ho with ho|ho|ho|ho
  ·rw[vF (by omega)];simp
  ·rw[vF (p:=0<=b) (by omega)];simp
  ·rw[vF (p:=a<(ps.length:Int)) (by omega)];simp
  ·rw[vF (p:=b<(ps.length:Int)) (by omega)];simp
 ·refine(Zn T t ps a b w hT hP ⟨by omega,by omega⟩ ⟨by omega,by omega⟩).mono fun e w' ⟨he,hw⟩=>⟨?_,hw⟩
  rw[he]
  refine qq ?_
  unfold QJ
  rw[vT (by omega),vT (by omega),vT (by omega),vT (by omega)];rfl
theorem qlo{ps:List Plc}{a b:Int}(ha:Num ps a)(hb:Num ps b∨b = -1):QJ ps a b=JT ps a b:=by
 unfold QJ JT
 have:=ha.1;have:=ha.2
 rcases hb with hb|rfl
 ·have:=hb.1;have:=hb.2
  rw[vT (p:=0<=a) (by omega),vT (p:=0<=b) (by omega),vT (p:=a<(ps.length:Int)) (by omega),vT (p:=b<(ps.length:Int)) (by omega)];simp
 ·simp
theorem qd.at_below{w W:World}{b:Nat}{t:TypeId}{cs:Array Value}(h:qd w b t cs)(hb:BX w W):qd W b t cs:=h.below hb h.lt
structure qjf(ns:List ByteArray)(ps:List Plc)(cs:List qp)(o:OpD):Prop where
 good:Qc ns ps cs o
 one:o.uses.length=1∨o.uses.length=2
 dn:∀r,r∈ql ns cs o.d->Num ps r
 un:∀u,u∈o.uses->∀r,r∈ql ns cs u->Num ps r
 dl:(ql ns cs o.d).length<=1000
 ul:∀u,u∈o.uses->(ql ns cs u).length<=1000
theorem qjf.clob{ns:List ByteArray}{ps:List Plc}{cs:List qp}{o:OpD}(h:qjf ns ps cs o):∀y,y∈o.clob->0<=qv ns y:=fun y hy=>by
 obtain⟨j,hj⟩:=List.getElem?_of_mem hy
 exact(h.good.clob j y hj).1
def qeT(ps:List Plc)(o:OpR)(a b:Int):Bool:=
 !JT ps a b&&(decide (o.tie<0)||(o.d.contains (if o.tie=0 then a else b)&&QH ps o (if o.tie=0 then a else b)))
theorem qkt(ps:List Plc)(o:OpR):Kf ps o=((o.uses.headD []).any (fun a=>(Jj o).any (qeT ps o a))&&(decide (0<=o.tie)||o.d.any (QH ps o))):=by
 unfold Kf
 by_cases h:0<=o.tie
 ·rw[if_pos h,vT h,Bool.true_or,Bool.and_true]
  have e:∀a,qeT ps o a=fun b=>(!JT ps a b&&(o.d.contains (if o.tie=0 then a else b)&&QH ps o (if o.tie=0 then a else b))):=fun a=>by
   funext b
   unfold qeT;rw[vF (by omega),Bool.false_or]
  simp only[e]
 ·rw[if_neg h,vF h,Bool.false_or]
  have e:∀a,qeT ps o a=fun b=>!JT ps a b:=fun a=>by
   funext b
   unfold qeT;rw[vT (by omega),Bool.true_or,Bool.and_true]
  simp only[e]
theorem qku(T:Nat)(t:TV)(d:qz)(ns:List ByteArray)(ps:List Plc)(k:Nat)(x:OpD)(w:World)(h:jy w T t d ns ps (qr ns d.classes))(hx:d.ops[k]?=some x)(ho:qjf ns ps d.classes x) :
 Calls prog 27 #[.pointer (some ⟨T,0,none⟩),.int .i64 k] w fun e w'=>e = .returned (.bool (Kf ps (opR ns d.classes x)))/\BX w w':=by
 obtain⟨b,o,ha,u,kk,hc0,hc1,hc2,hc3,hc4,hc5,hcu,hck⟩:=h.ops.2.2 k x hx
 have hlt:=(vS.1 hx).1
 have c3:=qd.cell h.tab (j:=3) (v:=.slice t.m.ops.a t.m.ops.n t.m.ops.c) rfl
 have hn:=h.ops.1
 have hcap:=h.ops.2.1
 have hun:=hcu.1
 have huc:=hcu.2.1
 rw[ha] at c3
 have k0:(0:Int)<=k:=vN _
 have i1:k<t.m.ops.n:=by omega
 have i2:(k:Int)<t.m.ops.n:=by omega
 obtain⟨u0,hu0⟩:∃u0,x.uses[0]?=some u0:=⟨_,vE (by have:=ho.one;omega)⟩
 have hmu0:=vM hu0
 obtain⟨ub,uo,hua,hx0,hx1⟩:=hcu.2.2 0 u0 hu0
 have K0:=fun W (hb:BX w W)=>ZO T t d ns ps u0 W (h.below hb) (ho.good.u u0 hmu0) (fun r hr=>(ho.un u0 hmu0 r hr).1)
 have Kd:=fun W (hb:BX w W)=>ZO T t d ns ps x.d W (h.below hb) ho.good.d (fun r hr=>(ho.dn r hr).1)
 have Km:=fun W r (hb:BX w W) (hr:Num ps r)=>qkr T t d ns ps k x r W (h.below hb) hx hr ho.clob ho.good.d (fun r hr=>(ho.dn r hr).1) (by have:=ho.dl;omega) (by have:=ho.good.few;omega)
 have Kc:=fun W r (hb:BX w W) (hr:Num ps r)=>qed T t d ns ps _ k x r W (h.below hb) hx hr ho.clob (by have:=ho.good.few;omega)
 have Kl:=fun W a b (hb:BX w W)=>qaK T t ps a b W (h.below hb).tab (h.below hb).places
 obtain⟨A,hA⟩:∃A,A=ql ns d.classes u0:=⟨_,rfl⟩
 have hAn:∀r,r∈A->Num ps r:=by rw[hA];exact ho.un u0 hmu0
 have hAl:A.length<=1000:=by rw[hA];exact ho.ul u0 hmu0
 have hDn:=ho.dn
 have hDl:=ho.dl
 have hhd:(opR ns d.classes x).uses.headD []=A:=by
  unfold opR
  dsimp only
  cases hux:x.uses with
  | nil=>rw[hux] at hu0;cases hu0
  | cons a r=>rw[hux] at hu0;cases hu0;rw[hA];rfl
 have hdR:(opR ns d.classes x).d=ql ns d.classes x.d:=rfl
 have htR:(opR ns d.classes x).tie=x.tie:=rfl
 have hcR:∀r,QH ps (opR ns d.classes x) r=xY ps (qh ns x.clob) r:=fun r=>rfl
 obtain⟨BL,hBL⟩:∃BL,BL=Jj (opR ns d.classes x):=⟨_,rfl⟩
 have hfr:=qkt ps (opR ns d.classes x)
 rw[hhd,←hBL,hdR,htR] at hfr
 have htie:x.tie<x.uses.length /\ -1<=x.tie:=by
  have:=ho.good.tie
  unfold qeS at this
  simp only[Bool.not_eq_true',Bool.or_eq_false_iff,decide_eq_false_iff_not] at this
  omega
 have hBLn:∀r,r∈BL->Num ps r∨r = -1:=by
  rw[hBL]
  unfold Jj opR
  dsimp only
  intro r hr
  match hux:x.uses with
  | []=>rw[hux] at hu0;cases hu0
  |[a]=>
   rw[hux] at hr
   simp at hr
   exact .inr hr
  |a::c::l=>
   rw[hux] at hr
   exact .inl (ho.un c (by rw[hux];simp) r hr)
 have hBLtie:0<=x.tie->x.tie≠0->∀r,r∈BL->Num ps r:=by
  intro h0 h1
  rw[hBL]
  unfold Jj opR
  dsimp only
  intro r hr
  match hux:x.uses with
  | []=>rw[hux] at hu0;cases hu0
  | [a]=>have:=htie.1;rw[hux] at this;simp at this;omega
  |a::c::l=>
   rw[hux] at hr
   exact ho.un c (by rw[hux];simp) r hr
 have hone:=ho.one
 have hone2:Hid (u.n<=2):=vH (by omega)
 have hK1:x.uses.length=2->∃u1,x.uses[1]?=some u1/\BL=ql ns d.classes u1:=fun h2=>by
  obtain⟨a1,a2,hac⟩:∃a1 a2,x.uses = [a1,a2]:=by
   match x.uses,h2 with
   | [a1,a2],_=>exact⟨a1,a2,rfl⟩
  refine⟨a2,by rw[hac];rfl,?_⟩
  rw[hBL]
  unfold Jj opR
  dsimp only
  rw[hac];rfl
 have hB1:x.uses.length=1->BL = [-1]:=fun h1=>by
  obtain⟨a1,hac⟩:=List.length_eq_one_iff.1 h1
  rw[hBL]
  unfold Jj opR
  dsimp only
  rw[hac];rfl
 have Kb:∀W u1,x.uses[1]?=some u1->BX w W->Calls prog 55 #[.pointer (some ⟨T,0,none⟩),.agg #[.string u1.cls,.string u1.fix]] W (qgu W (ql ns d.classes u1)):=fun W u1 h1 hb=>
  ZO T t d ns ps u1 W (h.below hb) (ho.good.u u1 (vM h1)) (fun r hr=>(ho.un u1 (vM h1) r hr).1)
 have hcu1:∀u1,x.uses[1]?=some u1->w.cell? ⟨ub,uo+2,none⟩=some (.string u1.cls)/\w.cell? ⟨ub,uo+2+1,none⟩=some (.string u1.fix):=fun u1 h1=>by
  obtain⟨b',o',hb',q0,q1⟩:=hcu.2.2 1 u1 h1
  rw[hua] at hb';cases hb'
  exact⟨by simpa using q0,by simpa using q1⟩
 have hmayP:∀a c,qeT ps (opR ns d.classes x) a c=(!JT ps a c&&(decide (x.tie<0)||((ql ns d.classes x.d).contains (if x.tie=0 then a else c)&&xY ps (qh ns x.clob) (if x.tie=0 then a else c)))):=fun a c=>by
  unfold qeT;rw[hdR,htR,hcR]
 have hcR2:(ql ns d.classes x.d).any (QH ps (opR ns d.classes x))=(ql ns d.classes x.d).any (xY ps (qh ns x.clob)):=by
  congr 1
 rw[hcR2] at hfr
 rw[←hA] at K0
 have hBLl:BL.length<=1000:=by
  rcases hone with h1|h2
  ·rw[hB1 h1];simp
  ·obtain⟨u1,h3,h4⟩:=hK1 h2
   rw[h4];exact ho.ul u1 (vM h3)
 simp only[Nat.zero_mul,Nat.add_zero] at hx0 hx1
 generalize t.m.ops.n=pn at *
 generalize t.m.ops.c=pc at *
 clear hx hlt ha hn ho hdR htR hcR hcR2 hhd hBL hA hmu0 h
 generalize qeT ps (opR ns d.classes x)=FP at *
 generalize Kf ps (opR ns d.classes x)=res at *
 replace hfr:=vH hfr
 replace hmayP:=vH hmayP
 replace hDn:=vH hDn
 replace hAn:=vH hAn
 replace hBLn:=vH hBLn
 replace hBLtie:=vH hBLtie
 replace hK1:=vH hK1
 replace hB1:=vH hB1
 replace hcu1:=vH hcu1
 replace hcu:=vH hcu
 replace hck:=vH hck
 replace hu0:=vH hu0
 obtain⟨xn,⟨xc,xf⟩,xu,xt,xk⟩:=x
 obtain⟨ua,un,uc⟩:=u
 obtain⟨uc0,uf0⟩:=u0
 dsimp only at *
 generalize ql ns d.classes ⟨xc,xf⟩=D at *
 have hbox:BX w (w.alloc (.cells #[.string xn,.string xc,.string xf,.slice ua un uc,.int .i64 xt,.slice kk.a kk.n kk.c] 47)):=qi
 have hcb:=qd.new w 47 #[.string xn,.string xc,.string xf,.slice ua un uc,.int .i64 xt,.slice kk.a kk.n kk.c]
 have e0:=qb hbox hx0
 have e1:=qb hbox hx1
 have un1:(0:Int)<un:=by omega
 have un1':0<un:=by omega
 replace hun:=vH hun
 subst hua
 go_enter func27,ntmps27
 go_upto_if 46 with(go_at_call 55;go_loud (refine(K0 _ hbox).mono ?_;rintro e W1 ⟨⟨sa,sn,sc⟩,rfl,hIA,hb1⟩;have hcb1:=hcb.at_below hb1;have q3:=hcb1.cell (j:=3) (v:=.slice (some ⟨ub,uo,none⟩) un uc) rfl;have qa3:=fun o=>qk o q3;replace hIA:=vH hIA))
 go_cut [7] from 47 to 52 (fun bv Wx=>∃s:SlV,bv = .slice s.a s.n s.c/\qJ Wx s BL/\qN Wx ⟨sa,sn,sc⟩ A/\BX w Wx/\qd Wx w.heap.size 47 #[.string xn,.string xc,.string xf,.slice (some ⟨ub,uo,none⟩) un uc,.int .i64 xt,.slice kk.a kk.n kk.c])
 case first=>
  have hal:BX W1 (W1.alloc (.cells #[.int .i64 (-1)] 3)):=qi
  have hw1:BX w W1:=hbox.trans (hb1.mono (by simp))
  have hw2:=hw1.trans (hal.mono hw1.size)
  rcases hone with h1|h2
  ·have hne:Hid (qJ (W1.alloc (.cells #[.int .i64 (-1)] 3)) ⟨some ⟨W1.heap.size,0,none⟩,1,1⟩ BL):=vH (by
    rw[hB1.out h1]
    refine⟨rfl,vL _,fun j y hj=>⟨_,_,rfl,?_⟩⟩
    cases j with
    | zero=>cases hj;exact zr W1 #[.int .i64 (-1)] 3 (j:=0) rfl
    | succ j=>simp at hj)
   have hun1:un=1:=by have:=hun.out;omega
   subst hun1
   clear hun h1
   go_wp2_with fail
   go_meet
   exact⟨⟨some ⟨W1.heap.size,0,none⟩,1,1⟩,rfl,hne.out,hIA.out.below hal,hw2,hcb1.at_below hal⟩
  ·obtain⟨⟨vc,vf⟩,hu1,hBLe⟩:=hK1.out h2
   obtain⟨y0,y1⟩:=hcu1.out _ hu1
   dsimp only at y0 y1
   have z0:=qb hw2 y0
   have z1:=qb hw2 y1
   have Kb2:=Kb _ _ hu1 hw2
   dsimp only at Kb2
   rw[←hBLe] at Kb2
   have hun2:un=2:=by have:=hun.out;omega
   subst hun2
   clear hun h2 hu1 hBLe
   go_wp2_with (go_at_call 55;go_loud (refine Kb2.mono ?_;clear Kb2;rintro e W2 ⟨s2,rfl,hI2,hb2⟩;have hI3:=vH hI2.at_;clear hI2))
   go_meet
   exact⟨s2,rfl,hI3.out,(hIA.out.below hal).below hb2,hw2.trans (hb2.mono hw2.size),(hcb1.at_below hal).at_below hb2⟩
 case rest=>
  obtain⟨⟨ba,bn,bc⟩,rfl,hIB,hIA2,hBc,hbx⟩:=hcut
  have hbn:=hIB.1
  have han:=hIA2.len
  dsimp only at hbn han
  subst hbn han
  have h4:=hbx.cell (j:=4) (v:=.int .i64 xt) rfl
  have h1c:=hbx.cell (j:=1) (v:=.string xc) rfl
  have h2c:=hbx.cell (j:=2) (v:=.string xf) rfl
  replace hIB:=vH hIB
  replace hIA2:=vH hIA2
  replace hbx:=vH hbx
  clear hIA q3 qa3 hcb1 hcb e0 e1 hx0 hx1 hb1 hbox hc0 hc1 hc2 hc3 hc4 hc5 c3 Kb K0 hK1 hB1 hcu1 hone hu0
  go_wp2_with fail
  go_loopw [8,9] (fun i _ wr=>∃j:Nat,j<=A.length/\i = .int .i64 j/\Hid (((A.take j).any fun a=>BL.any (FP a))=false)/\BX wc wr) (fun i _ _=>A.length-(intOf i).toNat)
  case atStart=>exact⟨0,vO _,rfl,vH rfl,kB _ _⟩
  case round=>
   obtain⟨j,hj,rfl,hE,hBl⟩:=hrel
   have j0:(0:Int)<=j:=vN _
   by_cases hlt:j<A.length
   ·obtain⟨y,hy⟩:∃y,A[j]?=some y:=⟨A[j],by rw[vE hlt]⟩
    obtain⟨ga,oa,hsa,hcy⟩:=hIA2.out.at_.2.2 j y hy
    dsimp only at hsa
    have hny:=hAn.out y (vM hy)
    replace hy:=vH hy
    have j1:(j:Int)<A.length:=by omega
    obtain⟨wo,rfl⟩:∃wo:World,wo=wr:=⟨_,rfl⟩
    subst hsa
    go_wp2_with fail
    go_loopw [9] (fun i wr=>∃k':Nat,k'<=BL.length/\i = .int .i64 k'/\Hid (((BL.take k').any (FP y))=false)/\BX wc wr) (fun i _=>BL.length-(intOf i).toNat)
    case atStart=>exact⟨0,vO _,rfl,vH rfl,hBl⟩
    case round=>
     obtain⟨i,hi,rfl,hF,hBk⟩:=hrel
     have i0:(0:Int)<=i:=vN _
     by_cases hlk:i<BL.length
     ·obtain⟨z,hz⟩:∃z,BL[i]?=some z:=⟨BL[i],by rw[vE hlk]⟩
      obtain⟨gb,ob,hsb,hcz⟩:=hIB.out.2.2 i z hz
      dsimp only at hsb
      have hnz:=hBLn.out z (vM hz)
      have hnt:=fun h0 h1=>hBLtie.out h0 h1 z (vM hz)
      have ii1:(i:Int)<BL.length:=by omega
      subst hsb
      have ey:=qb hBk hcy
      have ez:=qb hBk hcz
      have e4:=qb hBk h4
      have hwr:BX w wr:=hBc.trans (hBk.mono hBc.size)
      have hlX:=qlo hny hnz
      have hmP:=hmayP.out y z
      have KL:=fun W (hb:BX wr W)=>Kl W y z (hwr.trans (hb.mono hwr.size))
      rw[hlX] at KL
      have hbx2:=vH (hbx.out.at_below hBk)
      cases hlx:JT ps y z with
      |true=>
       have hF2:=vH (xR (p:=FP y) hF.out hz (by rw[hmP,hlx];rfl))
       rw[hlx] at KL
       clear hlx hmP hlX hF hz hnz hnt
       go_wp2_with fail
       go_region_held3 (fun w'=>w'.cell? ⟨ga,oa+j,none⟩=some (.int .i64 y)/\w'.cell? ⟨gb,ob+i,none⟩=some (.int .i64 z))
        (go_keep)
        ((go_at_call 23;refine(KL _ (kB _ _).drew).mono ?_;clear KL;rintro e W2 ⟨rfl,hb2⟩;have q0:=qb hb2 ey;have q1:=qb hb2 ez))
       go_wp2_with fail
       exact⟨⟨i+1,by omega,by go_num,hF2,hBk.trans (((kB _ _).drew.trans hb2).mono hBk.size)⟩,by simp[intOf];omega⟩
      |false=>
       rw[hlx] at KL hmP
       clear hlx hlX
       have hP2:∀W2,Below wr.heap.size wr.drew W2->BX wr W2:=fun W2 hb=>(kB _ _).drew.trans hb
       by_cases htie0:0<=xt
       ·have hxt:xt=0∨xt=1:=by
         have h1:=htie.1
         have h2:=hun.out
         have h3:=hone2.out
         omega
        rcases hxt with rfl|rfl
        ·have hrn:Num ps y:=hny
         have KM:=fun W (hb:BX wr W)=>Km W y (hwr.trans (hb.mono hwr.size)) hrn
         have hmP2:FP y z=(D.contains y&&xY ps (qh ns xk) y):=by rw[hmP];rfl
         clear hmP
         replace hmP2:=vH hmP2
         generalize(D.contains y&&xY ps (qh ns xk) y)=q at KM hmP2
         cases q with
         |true=>
          have hres:Hid (res=true):=vH (by
           rw[hfr.out,yO hy.out (yO (p:=FP y) hz hmP2.out)];rfl)
          clear hF hz hnz hnt hmP2 hrn
          go_wp2_with fail
          go_region_held3 (fun w'=>w'.cell? ⟨ga,oa+j,none⟩=some (.int .i64 y)/\w'.cell? ⟨gb,ob+i,none⟩=some (.int .i64 z))
           (go_keep)
           ((go_at_call 23;refine(KL _ (kB _ _).drew).mono ?_;clear KL;rintro e W2 ⟨rfl,hb2⟩;have q0:=qb hb2 ey;have q1:=qb hb2 ez))
          have hbw:=hP2 _ hb2
          have m4:=qb hbw e4
          go_wp2_with fail
          have m4a:=fun o=>qk o m4
          have hbm:=(hbw.alloc hbw.size (.cells #[.int .i64 y,.int .i64 z] 3)).drew
          go_region
          go_wp2_with (go_at_call 56;go_loud (refine(KM _ hbm).mono ?_;clear KM;rintro e W4 ⟨rfl,hb4⟩))
          go_ret
          exact⟨qq hres.out.symm,hwr.trans ((hbm.trans (hb4.mono hbm.size)).mono hwr.size)⟩
         |false=>
          have hF2:=vH (xR (p:=FP y) hF.out hz hmP2.out)
          clear hF hz hnz hnt hmP2 hrn
          go_wp2_with fail
          go_region_held3 (fun w'=>w'.cell? ⟨ga,oa+j,none⟩=some (.int .i64 y)/\w'.cell? ⟨gb,ob+i,none⟩=some (.int .i64 z))
           (go_keep)
           ((go_at_call 23;refine(KL _ (kB _ _).drew).mono ?_;clear KL;rintro e W2 ⟨rfl,hb2⟩;have q0:=qb hb2 ey;have q1:=qb hb2 ez))
          have hbw:=hP2 _ hb2
          have m4:=qb hbw e4
          go_wp2_with fail
          have m4a:=fun o=>qk o m4
          have hbm:=(hbw.alloc hbw.size (.cells #[.int .i64 y,.int .i64 z] 3)).drew
          go_region
          go_wp2_with (go_at_call 56;go_loud (refine(KM _ hbm).mono ?_;clear KM;rintro e W4 ⟨rfl,hb4⟩))
          exact⟨⟨i+1,by omega,by go_num,hF2,hBk.trans ((hbm.trans (hb4.mono hbm.size)).mono hBk.size)⟩,by simp[intOf];omega⟩
        ·have hrn:Num ps z:=hnt (by decide) (by decide)
         have KM:=fun W (hb:BX wr W)=>Km W z (hwr.trans (hb.mono hwr.size)) hrn
         have hmP2:FP y z=(D.contains z&&xY ps (qh ns xk) z):=by rw[hmP];rfl
         clear hmP
         replace hmP2:=vH hmP2
         generalize(D.contains z&&xY ps (qh ns xk) z)=q at KM hmP2
         cases q with
         |true=>
          have hres:Hid (res=true):=vH (by
           rw[hfr.out,yO hy.out (yO (p:=FP y) hz hmP2.out)];rfl)
          clear hF hz hnz hnt hmP2 hrn
          go_wp2_with fail
          go_region_held3 (fun w'=>w'.cell? ⟨ga,oa+j,none⟩=some (.int .i64 y)/\w'.cell? ⟨gb,ob+i,none⟩=some (.int .i64 z))
           (go_keep)
           ((go_at_call 23;refine(KL _ (kB _ _).drew).mono ?_;clear KL;rintro e W2 ⟨rfl,hb2⟩;have q0:=qb hb2 ey;have q1:=qb hb2 ez))
          have hbw:=hP2 _ hb2
          have m4:=qb hbw e4
          go_wp2_with fail
          have m4a:=fun o=>qk o m4
          have hbm:=(hbw.alloc hbw.size (.cells #[.int .i64 y,.int .i64 z] 3)).drew
          go_region
          go_wp2_with (go_at_call 56;go_loud (refine(KM _ hbm).mono ?_;clear KM;rintro e W4 ⟨rfl,hb4⟩))
          go_ret
          exact⟨qq hres.out.symm,hwr.trans ((hbm.trans (hb4.mono hbm.size)).mono hwr.size)⟩
         |false=>
          have hF2:=vH (xR (p:=FP y) hF.out hz hmP2.out)
          clear hF hz hnz hnt hmP2 hrn
          go_wp2_with fail
          go_region_held3 (fun w'=>w'.cell? ⟨ga,oa+j,none⟩=some (.int .i64 y)/\w'.cell? ⟨gb,ob+i,none⟩=some (.int .i64 z))
           (go_keep)
           ((go_at_call 23;refine(KL _ (kB _ _).drew).mono ?_;clear KL;rintro e W2 ⟨rfl,hb2⟩;have q0:=qb hb2 ey;have q1:=qb hb2 ez))
          have hbw:=hP2 _ hb2
          have m4:=qb hbw e4
          go_wp2_with fail
          have m4a:=fun o=>qk o m4
          have hbm:=(hbw.alloc hbw.size (.cells #[.int .i64 y,.int .i64 z] 3)).drew
          go_region
          go_wp2_with (go_at_call 56;go_loud (refine(KM _ hbm).mono ?_;clear KM;rintro e W4 ⟨rfl,hb4⟩))
          exact⟨⟨i+1,by omega,by go_num,hF2,hBk.trans ((hbm.trans (hb4.mono hbm.size)).mono hBk.size)⟩,by simp[intOf];omega⟩
       ·have hfp:FP y z=true:=by rw[hmP,vT (show xt<0 by omega)];rfl
        have hres0:Hid (res=D.any (xY ps (qh ns xk))):=vH (by
         rw[hfr.out,yO hy.out (yO (p:=FP y) hz hfp),vF htie0];rfl)
        have hcl:=fun W (hb:BX wr W)=>Kd W (hwr.trans (hb.mono hwr.size))
        have hB1c:=hbx2.out.cell (j:=1) (v:=.string xc) rfl
        have hB2c:=hbx2.out.cell (j:=2) (v:=.string xf) rfl
        clear hF hz hnz hnt hmP hfp
        go_wp2_with fail
        go_region_held3 (fun w'=>w'.cell? ⟨ga,oa+j,none⟩=some (.int .i64 y)/\w'.cell? ⟨gb,ob+i,none⟩=some (.int .i64 z))
         (go_keep)
         ((go_at_call 23;refine(KL _ (kB _ _).drew).mono ?_;clear KL;rintro e W2 ⟨rfl,hb2⟩;have q0:=qb hb2 ey;have q1:=qb hb2 ez))
        have hbw:=hP2 _ hb2
        have m4:=qb hbw e4
        have m1:=qb hbw hB1c
        have m2:=qb hbw hB2c
        go_wp2_with (go_at_call 55;go_loud (refine(hcl _ hbw).mono ?_;clear hcl;rintro e W3 ⟨⟨dA,dN,dC⟩,rfl,hID,hb3⟩))
        have hdn:=hID.len
        dsimp only at hdn
        subst hdn
        replace hID:=vH hID
        have hw3:BX w W3:=hwr.trans ((hbw.trans (hb3.mono hbw.size)).mono hwr.size)
        clear e4 ey ez m4 m1 m2 q0 q1 hB1c hB2c
        go_loopw [14] (fun i W=>∃q:Nat,q<=D.length/\i = .int .i64 q/\Hid ((D.take q).any (xY ps (qh ns xk))=false)/\BX W3 W) (fun i _=>D.length-(intOf i).toNat)
        case atStart=>exact⟨0,vO _,rfl,vH rfl,kB _ _⟩
        case round=>
         obtain⟨q,hq,rfl,hG,hBq⟩:=hrel
         have q0:(0:Int)<=q:=vN _
         by_cases hlq:q<D.length
         ·obtain⟨r,hr⟩:∃r,D[q]?=some r:=⟨D[q],by rw[vE hlq]⟩
          obtain⟨gd,od,hsd,hcr⟩:=hID.out.at_.2.2 q r hr
          dsimp only at hsd
          have hnr:=hDn.out r (vM hr)
          have er:=qb hBq hcr
          have q1:(q:Int)<D.length:=by omega
          have hwq:BX w wr:=hw3.trans (hBq.mono hw3.size)
          have KC:=Kc wr r hwq hnr
          subst hsd
          cases hcc:xY ps (qh ns xk) r with
          |true=>
           have hres:Hid (res=true):=vH (by rw[hres0.out,yO hr hcc])
           rw[hcc] at KC
           clear hcc hr hG
           go_wp2_with (go_at_call 57;refine KC.mono ?_;clear KC;rintro e W5 ⟨rfl,hb5⟩)
           go_ret
           exact⟨qq (by rw[hres.out]),hwq.trans (hb5.mono hwq.size)⟩
          |false=>
           have hG2:=vH (xR (p:=xY ps (qh ns xk)) hG.out hr hcc)
           rw[hcc] at KC
           clear hcc hr hG
           go_wp2_with (go_at_call 57;refine KC.mono ?_;clear KC;rintro e W5 ⟨rfl,hb5⟩)
           exact⟨⟨q+1,by omega,by go_num,hG2,hBq.trans (hb5.mono hBq.size)⟩,by simp[intOf];omega⟩
         ·have hres:Hid (res=false):=vH (by rw[hres0.out,XO hG.out (by omega)])
          clear hG
          go_wp2_with fail
          go_ret
          exact⟨qq (by rw[hres.out]),hw3.trans (hBq.mono hw3.size)⟩
     ·have hE2:=vH (xR (p:=fun a=>BL.any (FP a)) hE.out hy.out (XO hF.out (by omega)))
      clear hF
      go_wp2_with fail
      exact⟨⟨j+1,by omega,by go_num,hE2,hBk⟩,by simp[intOf];omega⟩
   ·have hres:Hid (res=false):=vH (by rw[hfr.out,XO hE.out (by omega),Bool.false_and])
    clear hE
    go_wp2_with fail
    go_ret
    exact⟨qq (by rw[hres.out]),hBc.trans (hBl.mono hBc.size)⟩
end Go.Proofs.YtomlgdnafeeeiaaGreatDoor
