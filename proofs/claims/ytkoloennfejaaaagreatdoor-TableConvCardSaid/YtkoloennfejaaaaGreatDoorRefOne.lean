/-
  The reference's smaller functions: names, find, In, Lap, Reg, ClassOf, OpOf, Arity, operand, distinct, list, choices, clear, May, Pair, apart, Fits.
-/
import Derived.Test.YtkoloennfejaaaaGreatDoorLyE
import Derived.Deep.RegionHeld3
import Derived.Test.YtkoloennfejaaaaGreatDoorRfP
import Derived.Deep.QuietTactic
import Derived.BigQuiet
import Derived.Deep.DeepCutAuto
import Derived.RegionTactic
import Derived.ChangeAlike
set_option maxHeartbeats 16000000
set_option maxRecDepth 100000
namespace Go.Proofs.YtkoloennfejaaaaGreatDoor
open Go.RowKit
theorem Ql(c:Int)(w:World):Calls Tryz.prog 161 #[.int .u8 c] w fun e w'=>e = .returned (.bool (qO c))/\w=w':=by
 go_enter Tryz.func161,Tryz.ntmps161
 go_wp2
 all_goals
  go_ret
  exact⟨qg (by unfold qO;rw[Bool.eq_iff_iff];simp;omega),rfl⟩
theorem XU(c:Int)(w:World):Calls Tryz.prog 162 #[.int .u8 c] w fun e w'=>e = .returned (.bool (digitB c))/\w=w':=by
 go_enter Tryz.func162,Tryz.ntmps162
 go_wp2
 all_goals
  go_ret
  exact⟨qg (by unfold digitB;rw[Bool.eq_iff_iff];simp;omega),rfl⟩
theorem qbZ(s:ByteArray)(w:World)(h:zz s):Calls Tryz.prog 128 #[.string s] w fun e w'=>e = .returned (.bool false)/\w=w':=by
 have h0:=h [109,97,99,104,105,110,101] (by decide)
 have h1:=h [114,101,103] (by decide)
 have h2:=h [97,116] (by decide)
 have h3:=h [99,108,97,115,115] (by decide)
 have h4:=h [111,112] (by decide)
 have h5:=h [116,105,101] (by decide)
 have h6:=h [99,108,111,98] (by decide)
 have h7:=h [97,114,103,115] (by decide)
 have h8:=h [114,101,115,117,108,116] (by decide)
 have h9:=h [115,97,118,101,100] (by decide)
 have h10:=h [115,108,111,116,115] (by decide)
 clear h
 go_enter Tryz.func128,Tryz.ntmps128
 go_wp2
 go_ret
 exact⟨rfl,rfl⟩
theorem qaA(s:ByteArray)(w:World)(h:∃x,x∈words/\(s.toList==x)=true):Calls Tryz.prog 128 #[.string s] w fun e w'=>e = .returned (.bool true)/\w=w':=by
 obtain⟨x,hx,hs⟩:=h
 obtain rfl:=qcL hs
 unfold words at hx
 simp only[List.mem_cons,List.not_mem_nil,or_false] at hx
 clear hs
 rcases hx with rfl|rfl|rfl|rfl|rfl|rfl|rfl|rfl|rfl|rfl|rfl
 all_goals
  go_enter Tryz.func128,Tryz.ntmps128
  go_wp2
  go_ret
  exact⟨rfl,rfl⟩
def wordB(s:ByteArray):Bool:=words.any fun x=>s.toList==x
theorem qgj(s:ByteArray)(w:World):Calls Tryz.prog 128 #[.string s] w fun e w'=>e = .returned (.bool (wordB s))/\w=w':=by
 cases h:wordB s with
 | true=>exact qaA s w (by simpa[wordB] using h)
 | false=>exact qbZ s w (fun x hx=>(Bool.eq_false_iff).2 (List.any_eq_false.1 h x hx))
def nameN(s:ByteArray):Bool:=decide (0<s.size/\s.size<=20)&&qO (s.data.toList.headD 0).toNat&&s.data.toList.all fun c=>inNameB c.toNat
theorem qfb(s:ByteArray):nameB s=(nameN s && !wordB s):=by
 unfold nameB nameN wordB
 congr 1
 rw[List.not_any_eq_all_not]
theorem qgk(s:ByteArray)(w:World):Calls Tryz.prog 127 #[.string s] w fun e w'=>e = .returned (.bool (nameN s))/\w=w':=by
 by_cases h0:s.size=0
 ·have hs:s=⟨#[]⟩:=by
   cases s with
   |mk d=>
    have:d=#[]:=Array.size_eq_zero_iff.1 h0
    rw[this]
  subst hs
  go_enter Tryz.func127,Tryz.ntmps127
  go_wp2_with fail
  go_ret
  exact⟨rfl,rfl⟩
 ·have hne:(s.toList==[])=false:=by
   rw[Bool.eq_false_iff]
   intro h
   have h':s.toList = []:=by simpa using h
   rw[ByteArray.toList_eq] at h'
   exact h0 (by have:=congrArg List.length h';simpa using this)
  by_cases hl:20<s.size
  ·have hl2:(20:Int)<s.size:=by omega
   have hr:Hid (nameN s=false):=Lib.hid (by unfold nameN;rw[decide_eq_false (by omega)];rfl)
   clear h0
   go_enter Tryz.func127,Tryz.ntmps127
   go_wp2_with fail
   go_ret
   exact⟨qg hr.out.symm,rfl⟩
  ·have hl2:¬ (20:Int)<s.size:=by omega
   have hpos:0<s.size:=by omega
   have hd:Hid (s.data.toList.headD 0=s[0]'hpos):=Lib.hid (by
    have:=jY s 0 hpos
    rw[List.drop_zero] at this
    rw[this];rfl)
   have hok:Hid (0<s.size/\s.size<=20):=Lib.hid ⟨hpos,by omega⟩
   have hs65:s.size<=20:=by omega
   clear h0
   go_enter Tryz.func127,Tryz.ntmps127
   go_wp2_with (go_at_call 161;refine(Ql _ _).mono ?_;rintro e w' ⟨rfl,rfl⟩)
   go_loop [4] (fun i=>∃j:Nat,j<=s.size/\i = .int .i64 j/\Hid ((s.data.toList.take j).all (fun c=>inNameB c.toNat)=true)) (fun i=>s.size-(intOf i).toNat)
   case atStart=>exact⟨0,Nat.zero_le _,rfl,Lib.hid rfl⟩
   case round=>
    obtain⟨j,hj,rfl,hE⟩:=hrel
    by_cases hlt:j<s.size
    ·by_cases hp:inNameB s[j].toNat=true
     ·have hE2:Hid ((s.data.toList.take (j+1)).all (fun c=>inNameB c.toNat)=true):=Lib.hid (by
       have hjl:j<s.data.toList.length:=by simpa using hlt
       rw[←List.take_append_getElem hjl,List.all_append,hE.out]
       have:s.data.toList[j]=s[j]:=by simp[ByteArray.getElem_eq_getElem_data]
       simp[this,hp])
      unfold inNameB at hp
      clear hE
      by_cases ha:qO s[j].toNat=true
      ·clear hp
       go_wp2_with (first|(go_at_call 161;refine(Ql _ _).mono ?_;rintro e w' ⟨rfl,rfl⟩)|(go_at_call 162;refine(XU _ _).mono ?_;rintro e w' ⟨rfl,rfl⟩))
       go_round
       case rel=>exact⟨j+1,by omega,by go_num,hE2⟩
       case measure=>simp[intOf];omega
      ·have ha2:qO s[j].toNat=false:=by simpa using ha
       have hb:digitB s[j].toNat=true:=by rw[ha2] at hp;simpa using hp
       clear hp ha
       go_wp2_with (first|(go_at_call 161;refine(Ql _ _).mono ?_;rintro e w' ⟨rfl,rfl⟩)|(go_at_call 162;refine(XU _ _).mono ?_;rintro e w' ⟨rfl,rfl⟩))
       go_round
       case rel=>exact⟨j+1,by omega,by go_num,hE2⟩
       case measure=>simp[intOf];omega
     ·have hr:Hid (nameN s=false):=Lib.hid (by
       unfold nameN
       have:(s.data.toList.all fun c=>inNameB c.toNat)=false:=by
        rw[Bool.eq_false_iff]
        intro h
        have hjl:j<s.data.toList.length:=by simpa using hlt
        have:=List.all_eq_true.1 h _ (List.getElem_mem hjl)
        have he:s.data.toList[j]=s[j]:=by simp[ByteArray.getElem_eq_getElem_data]
        rw[he] at this
        exact hp this
       rw[this,Bool.and_false])
      have ha:qO s[j].toNat=false:=by
       cases h:qO s[j].toNat
       ·rfl
       ·exact absurd (by unfold inNameB;rw[h];rfl) hp
      have hb:digitB s[j].toNat=false:=by
       cases h:digitB s[j].toNat
       ·rfl
       ·exact absurd (by unfold inNameB;rw[h,Bool.or_true]) hp
      clear hE hp
      go_wp2_with (first|(go_at_call 161;refine(Ql _ _).mono ?_;rintro e w' ⟨rfl,rfl⟩)|(go_at_call 162;refine(XU _ _).mono ?_;rintro e w' ⟨rfl,rfl⟩))
      go_ret
      exact⟨qg hr.out.symm,rfl⟩
    ·have hr:Hid (nameN s=qO (s[0]'hpos).toNat):=Lib.hid (by
      unfold nameN
      have hall:=hE.out
      rw[List.take_of_length_le (by simp;omega)] at hall
      rw[hall,decide_eq_true hok.out,hd.out];simp)
     clear hE
     go_wp2_with fail
     go_ret
     exact⟨qg hr.out.symm,rfl⟩
theorem refNamed(s:ByteArray)(w:World):Calls Tryz.prog 91 #[.string s] w fun e w'=>e = .returned (.bool (nameB s))/\w=w':=by
 have K1:=qgk s w
 have K2:=qgj s w
 rw[qfb]
 generalize nameN s=x at *
 generalize wordB s=y at *
 cases x <;> cases y
 all_goals
  go_enter Tryz.func91,Tryz.ntmps91
  go_wp2_with (first|(go_at_call 127;refine K1.mono ?_;clear K1;rintro e w' ⟨rfl,rfl⟩)|(go_at_call 128;refine K2.mono ?_;clear K2;rintro e w' ⟨rfl,rfl⟩))
  go_ret
  exact⟨rfl,rfl⟩
theorem YO(s:SlV)(l:List ByteArray)(nm:ByteArray)(w:World)(hl:StrsAt w s l)(hbig:s.n<4611686018427387904) :
 Calls Tryz.prog 82 #[.slice s.a s.n s.c,.string nm] w fun e w'=>e = .returned (.int .i64 (regN l nm))/\w=w':=by
 obtain⟨a,n,c⟩:=s
 obtain⟨hn1,hcap,hl⟩:=hl
 dsimp only at hn1 hcap hl hbig ⊢
 subst hn1
 replace hl:=Lib.hid hl
 go_enter Tryz.func82,Tryz.ntmps82
 go_wp2
 go_loop [5] (fun i=>∃k:Nat,k<=l.length/\i = .int .i64 k/\qN (fun x=>eqB x nm) l k) (fun i=>l.length-(intOf i).toNat)
 case atStart=>exact⟨0,Nat.zero_le _,rfl,qN.zero _ _⟩
 case round=>
  obtain⟨k,hk,rfl,hY⟩:=hrel
  replace hY:=Lib.hid hY
  by_cases hlt:k<l.length
  ·obtain⟨x,hx⟩:∃x,l[k]?=some x:=⟨l[k],by rw[List.getElem?_eq_getElem hlt]⟩
   obtain⟨b,o,rfl,hc⟩:=hl.out k x hx
   replace hx:=Lib.hid hx
   by_cases hp:eqB x nm=true
   ·have hp2:(x.toList==nm.toList)=true:=(Lib.bytes_beq_iff x nm).2 (by simpa[eqB] using hp)
    replace hp:=Lib.hid hp
    go_wp2_with fail
    go_ret
    exact⟨qp (hY.out.hit hx.out hp.out).symm,rfl⟩
   ·have hp':eqB x nm=false:=by simpa using hp
    have hp2:(x.toList==nm.toList)=false:=(Bool.eq_false_iff).2 fun h=>by have:=(Lib.bytes_beq_iff x nm).1 h;simp[eqB,this] at hp'
    replace hp':=Lib.hid hp'
    clear hp
    go_wp2_with fail
    go_round
    case rel=>exact⟨k+1,by omega,by go_num,hY.out.succ hx.out hp'.out⟩
    case measure=>simp[intOf];omega
  ·go_wp2_with fail
   go_ret
   exact⟨qp (hY.out.miss (by omega)).symm,rfl⟩
theorem JG{l:List Int}{x:Int}{k:Nat}{a:Int}(h:(l.take k).contains x=false)(hk:l[k]?=some a)(ha:(a==x)=false):(l.take (k+1)).contains x=false:=by
 have hl:=(List.getElem?_eq_some_iff.1 hk).1
 have he:=(List.getElem?_eq_some_iff.1 hk).2
 have hne:¬ a=x:=by simpa using ha
 rw[←List.take_append_getElem hl,he]
 simp only[List.contains_eq_mem,decide_eq_false_iff_not,List.mem_append,List.mem_singleton] at h ⊢
 rintro(h1|h1)
 ·exact h h1
 ·exact hne h1.symm
theorem qaB(s:SlV)(l:List Int)(x:Int)(w:World)(hl:IntsAt w s l)(hbig:s.n<4611686018427387904) :
 Calls Tryz.prog 49 #[.slice s.a s.n s.c,.int .i64 x] w fun e w'=>e = .returned (.bool (l.contains x))/\w=w':=by
 obtain⟨a,n,c⟩:=s
 obtain⟨hn1,hcap,hl⟩:=hl
 dsimp only at hn1 hcap hl hbig ⊢
 subst hn1
 replace hl:=Lib.hid hl
 go_enter Tryz.func49,Tryz.ntmps49
 go_wp2
 go_loop [5] (fun i=>∃k:Nat,k<=l.length/\i = .int .i64 k/\Hid ((l.take k).contains x=false)) (fun i=>l.length-(intOf i).toNat)
 case atStart=>exact⟨0,Nat.zero_le _,rfl,Lib.hid (by simp)⟩
 case round=>
  obtain⟨k,hk,rfl,hY⟩:=hrel
  by_cases hlt:k<l.length
  ·obtain⟨y,hx⟩:∃y,l[k]?=some y:=⟨l[k],by rw[List.getElem?_eq_getElem hlt]⟩
   obtain⟨b,o,rfl,hc⟩:=hl.out k y hx
   replace hx:=Lib.hid hx
   cases hp:y==x with
   |true=>
    have hr:Hid (l.contains x=true):=Lib.hid (by
     have:=List.mem_of_getElem? hx.out
     have he:y=x:=by simpa using hp
     rw[he] at this
     simpa using this)
    have hdec:decide (y=x)=true:=by simpa using hp
    go_wp2_with fail
    go_ret
    exact⟨qg (by rw[←List.contains_eq_mem];exact hr.out.symm),rfl⟩
   |false=>
    have hY2:=Lib.hid (JG hY.out hx.out hp)
    have hdec:decide (y=x)=false:=by simpa using hp
    clear hY
    go_wp2_with fail
    go_round
    case rel=>exact⟨k+1,by omega,by go_num,hY2⟩
    case measure=>simp[intOf];omega
  ·have hr:Hid (l.contains x=false):=Lib.hid (by
    have:=hY.out
    rw[List.take_of_length_le (by omega)] at this
    exact this)
   clear hY
   go_wp2_with fail
   go_ret
   exact⟨qg (by rw[←List.contains_eq_mem];exact hr.out.symm),rfl⟩
theorem qfc(p q:Plc)(w:World)(hp:PlcOk p)(hq:PlcOk q) :
 Calls Tryz.prog 95 #[.agg #[.int .i64 p.1,.int .i64 p.2.1,.int .i64 p.2.2],.agg #[.int .i64 q.1,.int .i64 q.2.1,.int .i64 q.2.2]] w fun e w'=>
  e = .returned (.bool (lapP p q))/\Below w.heap.size w w':=by
 obtain⟨p1,p2,p3⟩:=p
 obtain⟨q1,q2,q3⟩:=q
 obtain⟨a1,a2,a3,a4⟩:=hp
 obtain⟨b1,b2,b3,b4⟩:=hq
 dsimp only at a1 a2 a3 a4 b1 b2 b3 b4 ⊢
 have s1:IntKind.i64.wrap (q2+q3)=q2+q3:=IntWalk.i64_in _ (by omega)
 have s2:IntKind.i64.wrap (p2+p3)=p2+p3:=IntWalk.i64_in _ (by omega)
 have g1:0<p3:=by omega
 have g2:0<q3:=by omega
 have hB:Hid (Below w.heap.size w ((w.alloc (.cells #[.int .i64 p1,.int .i64 p2,.int .i64 p3] 94)).alloc (.cells #[.int .i64 q1,.int .i64 q2,.int .i64 q3] 94))):=Lib.hid (qe.alloc (by simp) _)
 by_cases h:p1=q1
 ·subst h
  by_cases hA:p2<q2+q3
  ·by_cases hC:q2<p2+p3
   ·have hr:Hid (lapP (p1,p2,p3) (p1,q2,q3)=true):=Lib.hid (by unfold lapP lapB;simp[hA,hC])
    go_enter Tryz.func95,Tryz.ntmps95
    go_wp2_with fail
    go_ret
    exact⟨qg hr.out.symm,hB.out⟩
   ·have hr:Hid (lapP (p1,p2,p3) (p1,q2,q3)=false):=Lib.hid (by unfold lapP lapB;simp[hC])
    go_enter Tryz.func95,Tryz.ntmps95
    go_wp2_with fail
    go_ret
    exact⟨qg hr.out.symm,hB.out⟩
  ·have hr:Hid (lapP (p1,p2,p3) (p1,q2,q3)=false):=Lib.hid (by unfold lapP lapB;simp[hA])
   go_enter Tryz.func95,Tryz.ntmps95
   go_wp2_with fail
   go_ret
   exact⟨qg hr.out.symm,hB.out⟩
 ·have hr:Hid (lapP (p1,p2,p3) (q1,q2,q3)=false):=Lib.hid (by unfold lapP;simp[h])
  have h2:(p1==q1)=false:=by simpa using h
  have h3:decide (p1=q1)=false:=by simpa using h
  go_enter Tryz.func95,Tryz.ntmps95
  go_wp2_with fail
  go_ret
  exact⟨qg hr.out.symm,hB.out⟩
structure TV where
 m:MV
 names:SlV
 places:SlV
 classes:SlV
def TV.cells(t:TV):Array Value:=#[.string t.m.name,.slice t.m.regs.a t.m.regs.n t.m.regs.c,.slice t.m.classes.a t.m.classes.n t.m.classes.c,.slice t.m.ops.a t.m.ops.n t.m.ops.c,.slice t.m.args.a t.m.args.n t.m.args.c,.string t.m.result,.slice t.m.saved.a t.m.saved.n t.m.saved.c,.int .i64 t.m.slots,
 .slice t.names.a t.names.n t.names.c,.slice t.places.a t.places.n t.places.c,.slice t.classes.a t.classes.n t.classes.c]
def TabAt(W:World)(T:Nat)(t:TV):Prop:=Cells W T 40 t.cells
theorem yv(T:Nat)(t:TV)(ns:List ByteArray)(nm:ByteArray)(w:World)(hT:TabAt w T t)(hN:StrsAt w t.names ns)(hbig:t.names.n<4611686018427387904) :
 Calls Tryz.prog 55 #[.pointer (some ⟨T,0,none⟩),.string nm] w fun e w'=>e = .returned (.int .i64 (regN ns nm))/\w=w':=by
 have K:=YO t.names ns nm w hN hbig
 have c8:=Cells.cell hT (j:=8) (v:=.slice t.names.a t.names.n t.names.c) rfl
 clear hN hT
 go_enter Tryz.func55,Tryz.ntmps55
 go_wp2_with (go_at_call 82;refine K.mono ?_;clear K;rintro e W1 ⟨rfl,rfl⟩)
 go_ret
 exact⟨rfl,rfl⟩
theorem xA(T:Nat)(t:TV)(cs:List ClassD)(nm:ByteArray)(w:World)(hT:TabAt w T t)(hK:ClassesAt w t.m.classes cs)(hbig:t.m.classes.n<1000000) :
 Calls Tryz.prog 11 #[.pointer (some ⟨T,0,none⟩),.string nm] w fun e w'=>e = .returned (.int .i64 (idxP (fun x:ClassD=>eqB x.name nm) cs))/\w=w':=by
 have c2:=Cells.cell hT (j:=2) (v:=.slice t.m.classes.a t.m.classes.n t.m.classes.c) rfl
 obtain⟨⟨mn,rg,⟨a,n,c⟩,op,ar,rs,sv,sl⟩,nV,pV,cV⟩:=t
 obtain⟨hn1,hcap,hl⟩:=hK
 dsimp only at hn1 hcap hl hbig c2 ⊢
 subst hn1
 replace hl:=Lib.hid hl
 clear hT
 go_enter Tryz.func11,Tryz.ntmps11
 go_wp2
 go_loop [5] (fun i=>∃k:Nat,k<=cs.length/\i = .int .i64 k/\qN (fun x:ClassD=>eqB x.name nm) cs k) (fun i=>cs.length-(intOf i).toNat)
 case atStart=>exact⟨0,Nat.zero_le _,rfl,qN.zero _ _⟩
 case round=>
  obtain⟨k,hk,rfl,hY⟩:=hrel
  replace hY:=Lib.hid hY
  by_cases hlt:k<cs.length
  ·obtain⟨x,hx⟩:∃x,cs[k]?=some x:=⟨cs[k],by rw[List.getElem?_eq_getElem hlt]⟩
   obtain⟨b,o,rfl,r,hc,_,_⟩:=hl.out k x hx
   replace hx:=Lib.hid hx
   by_cases hp:eqB x.name nm=true
   ·have hp2:(x.name.toList==nm.toList)=true:=(Lib.bytes_beq_iff x.name nm).2 (by simpa[eqB] using hp)
    replace hp:=Lib.hid hp
    go_wp2_with fail
    go_ret
    exact⟨qp (hY.out.hit hx.out hp.out).symm,rfl⟩
   ·have hp':eqB x.name nm=false:=by simpa using hp
    have hp2:(x.name.toList==nm.toList)=false:=(Bool.eq_false_iff).2 fun h=>by have:=(Lib.bytes_beq_iff x.name nm).1 h;simp[eqB,this] at hp'
    replace hp':=Lib.hid hp'
    clear hp
    go_wp2_with fail
    go_round
    case rel=>exact⟨k+1,by omega,by go_num,hY.out.succ hx.out hp'.out⟩
    case measure=>simp[intOf];omega
  ·go_wp2_with fail
   go_ret
   exact⟨qp (hY.out.miss (by omega)).symm,rfl⟩
theorem qcO(T:Nat)(t:TV)(os:List OpD)(nm:ByteArray)(w:World)(hT:TabAt w T t)(hK:OpsAt w t.m.ops os)(hbig:t.m.ops.n<1000000) :
 Calls Tryz.prog 19 #[.pointer (some ⟨T,0,none⟩),.string nm] w fun e w'=>e = .returned (.int .i64 (idxP (fun x:OpD=>eqB x.name nm) os))/\w=w':=by
 have c3:=Cells.cell hT (j:=3) (v:=.slice t.m.ops.a t.m.ops.n t.m.ops.c) rfl
 obtain⟨⟨mn,rg,kl,⟨a,n,c⟩,ar,rs,sv,sl⟩,nV,pV,cV⟩:=t
 obtain⟨hn1,hcap,hl⟩:=hK
 dsimp only at hn1 hcap hl hbig c3 ⊢
 subst hn1
 replace hl:=Lib.hid hl
 clear hT
 go_enter Tryz.func19,Tryz.ntmps19
 go_wp2
 go_loop [5] (fun i=>∃k:Nat,k<=os.length/\i = .int .i64 k/\qN (fun x:OpD=>eqB x.name nm) os k) (fun i=>os.length-(intOf i).toNat)
 case atStart=>exact⟨0,Nat.zero_le _,rfl,qN.zero _ _⟩
 case round=>
  obtain⟨k,hk,rfl,hY⟩:=hrel
  replace hY:=Lib.hid hY
  by_cases hlt:k<os.length
  ·obtain⟨x,hx⟩:∃x,os[k]?=some x:=⟨os[k],by rw[List.getElem?_eq_getElem hlt]⟩
   obtain⟨b,o,rfl,u,kk,hc,_,_,_,_,_,_,_⟩:=hl.out k x hx
   replace hx:=Lib.hid hx
   by_cases hp:eqB x.name nm=true
   ·have hp2:(x.name.toList==nm.toList)=true:=(Lib.bytes_beq_iff x.name nm).2 (by simpa[eqB] using hp)
    replace hp:=Lib.hid hp
    go_wp2_with fail
    go_ret
    exact⟨qp (hY.out.hit hx.out hp.out).symm,rfl⟩
   ·have hp':eqB x.name nm=false:=by simpa using hp
    have hp2:(x.name.toList==nm.toList)=false:=(Bool.eq_false_iff).2 fun h=>by have:=(Lib.bytes_beq_iff x.name nm).1 h;simp[eqB,this] at hp'
    replace hp':=Lib.hid hp'
    clear hp
    go_wp2_with fail
    go_round
    case rel=>exact⟨k+1,by omega,by go_num,hY.out.succ hx.out hp'.out⟩
    case measure=>simp[intOf];omega
  ·go_wp2_with fail
   go_ret
   exact⟨qp (hY.out.miss (by omega)).symm,rfl⟩
def TV.cv(t:TV):CV:=⟨t.m,t.names,t.places,t.classes,⟨none,0,0⟩,⟨none,0,0⟩,0⟩
theorem jR(T:Nat)(t:TV)(ps:List Plc)(r x:Int)(w:World)(hT:TabAt w T t)(hP:qP w t.cv ps)(hr:Num ps r)(hx:Num ps x) :
 Calls Tryz.prog 61 #[.pointer (some ⟨T,0,none⟩),.int .i64 r,.int .i64 x] w fun e w'=>e = .returned (.bool (lapP (plc ps r) (plc ps x)))/\Below w.heap.size w w':=by
 have K:=fun W=>qfc (plc ps r) (plc ps x) W (hr.plc_ok hP) (hx.plc_ok hP)
 obtain⟨b,o,ha,p0,p1,p2⟩:=hP.at_ _ _ hr.get
 obtain⟨b',o',ha',q0,q1,q2⟩:=hP.at_ _ _ hx.get
 have hlen:=hP.len
 have ea:t.cv.places=t.places:=rfl
 rw[ea] at ha ha' hlen
 obtain⟨i,rfl⟩:∃i:Nat,r=i:=⟨r.toNat,by have:=hr.1;omega⟩
 obtain⟨j,rfl⟩:∃j:Nat,x=j:=⟨x.toNat,by have:=hx.1;omega⟩
 have i0:(0:Int)<=i:=Int.natCast_nonneg _
 have j0:(0:Int)<=j:=Int.natCast_nonneg _
 have i1:i<t.places.n:=by have:=hr.2;omega
 have j1:j<t.places.n:=by have:=hx.2;omega
 have i2:(i:Int)<t.places.n:=by omega
 have j2:(j:Int)<t.places.n:=by omega
 have c9:=Cells.cell hT (j:=9) (v:=.slice t.places.a t.places.n t.places.c) rfl
 rw[ha] at ha'
 cases ha'
 rw[ha] at c9
 simp only[Int.toNat_natCast] at p0 p1 p2 q0 q1 q2
 generalize plc ps (i:Int)=pr at K p0 p1 p2 ⊢
 generalize plc ps (j:Int)=px at K q0 q1 q2 ⊢
 obtain⟨u0,u1,u2⟩:=pr
 obtain⟨v0,v1,v2⟩:=px
 dsimp only at K p0 p1 p2 q0 q1 q2
 generalize lapP (u0,u1,u2) (v0,v1,v2)=z at K ⊢
 generalize t.places.n=pn at *
 generalize t.places.c=pc at *
 clear ha hP hT hr hx hlen ea
 go_enter Tryz.func61,Tryz.ntmps61
 go_wp2_with fail
 go_region_held3 (fun w'=>w'.cell? ⟨T,9,none⟩=some (.slice (some ⟨b,o,none⟩) pn pc)/\w'.cell? ⟨b,o+i*3,none⟩=some (.int .i64 u0)/\w'.cell? ⟨b,o+i*3+1,none⟩=some (.int .i64 u1)/\w'.cell? ⟨b,o+i*3+2,none⟩=some (.int .i64 u2)/\w'.cell? ⟨b,o+j*3,none⟩=some (.int .i64 v0)/\w'.cell? ⟨b,o+j*3+1,none⟩=some (.int .i64 v1)/\w'.cell? ⟨b,o+j*3+2,none⟩=some (.int .i64 v2))
  (go_keep)
  ((go_at_call 95;refine(K _).mono ?_;rintro e W2 ⟨rfl,hb2⟩;have k0:=cell_below hb2 c9;have k1:=cell_below hb2 p0;have k2:=cell_below hb2 p1;have k3:=cell_below hb2 p2;have k4:=cell_below hb2 q0;have k5:=cell_below hb2 q1;have k6:=cell_below hb2 q2))
 all_goals
  go_wp2_with fail
  go_ret
  first|exact⟨rfl,hb2⟩|exact⟨rfl,hb2.drew⟩|exact⟨rfl,(Below.refl _ _).drew.trans hb2⟩
theorem XV(T:Nat)(t:TV)(ls:List (List Int))(c:Int)(x:Int)(w:World)(hT:TabAt w T t)(hL:qQ w t.classes ls)(hc:c = -1∨0<=c/\c<ls.length) :
 Calls Tryz.prog 17 #[.pointer (some ⟨T,0,none⟩),.int .i64 c,.int .i64 x] w fun e w'=>e = .returned (.bool (decide (0<=c)&&(ls.getD c.toNat []).contains x))/\w=w':=by
 rcases hc with rfl|⟨h0,h1⟩
 ·clear hL hT
  go_enter Tryz.func17,Tryz.ntmps17
  go_wp2_with fail
  go_ret
  exact⟨rfl,rfl⟩
 ·obtain⟨k,rfl⟩:∃k:Nat,c=k:=⟨c.toNat,by omega⟩
  have hk:k<ls.length:=by omega
  obtain⟨l,hl⟩:∃l,ls[k]?=some l:=⟨ls[k],List.getElem?_eq_getElem hk⟩
  obtain⟨b,o,v,ha,hcell,hI,hlen,_,hcap⟩:=hL.get hl
  have hn:=hL.len
  have hvn:=hI.len
  have K:=qaB v l x w hI.at_ (by omega)
  have hr:Hid ((decide ((0:Int)<=(k:Int))&&(ls.getD (k:Int).toNat []).contains x)=l.contains x):=Lib.hid (by
   rw[decide_eq_true h0,Bool.true_and,Int.toNat_natCast,List.getD_eq_getElem?_getD,hl];rfl)
  have c10:=Cells.cell hT (j:=10) (v:=.slice t.classes.a t.classes.n t.classes.c) rfl
  rw[ha] at c10
  have i1:k<t.classes.n:=by omega
  have i2:(k:Int)<t.classes.n:=by omega
  generalize t.classes.n=pn at *
  generalize t.classes.c=pc at *
  generalize l.contains x=z at *
  clear hL hT hl hI hk h1 hn hvn hlen ha
  go_enter Tryz.func17,Tryz.ntmps17
  go_wp2_with (go_at_call 49;refine K.mono ?_;clear K;rintro e W1 ⟨rfl,rfl⟩)
  go_ret
  exact⟨qg hr.out.symm,rfl⟩
theorem qfd(s:ByteArray)(w:World):Calls Tryz.prog 130 #[.string s] w fun e w'=>e = .returned (.int .i64 (arityN s))/\w=w':=by
 by_cases h2:∃x,x∈opNames2/\s.toList=x
 ·obtain⟨x,hx,hs⟩:=h2
  have hr:Hid (arityN s=2):=Lib.hid (by unfold arityN;rw[hs,if_pos (by simpa using hx)])
  simp only[opNames2,List.mem_cons,List.not_mem_nil,or_false] at hx
  rcases hx with rfl|rfl|rfl|rfl|rfl|rfl|rfl|rfl|rfl|rfl|rfl|rfl
  all_goals
   go_enter Tryz.func130,Tryz.ntmps130
   go_wp2
   go_ret
   exact⟨qp (by rw[hr.out];rfl),rfl⟩
 ·have hn:∀x,x∈opNames2->(s.toList==x)=false:=fun x hx=>by
   simp only[beq_eq_false_iff_ne,ne_eq]
   exact fun e=>h2 ⟨x,hx,e⟩
  have g0:=hn [97,100,100] (by decide)
  have g1:=hn [115,117,98] (by decide)
  have g2:=hn [109,117,108] (by decide)
  have g3:=hn [97,110,100] (by decide)
  have g4:=hn [111,114] (by decide)
  have g5:=hn [120,111,114] (by decide)
  have g6:=hn [115,104,108] (by decide)
  have g7:=hn [115,104,114] (by decide)
  have g8:=hn [100,105,118] (by decide)
  have g9:=hn [114,101,109] (by decide)
  have g10:=hn [108,116] (by decide)
  have g11:=hn [101,113] (by decide)
  have hc:opNames2.contains s.toList=false:=by
   cases h:opNames2.contains s.toList with
   | false=>rfl
   | true=>exact absurd ⟨s.toList,by simpa using h,rfl⟩ h2
  by_cases h1:(s.toList==[110,111,116])=true
  ·have hr:Hid (arityN s=1):=Lib.hid (by unfold arityN;rw[hc,h1];rfl)
   clear hn h2 hc
   go_enter Tryz.func130,Tryz.ntmps130
   go_wp2
   go_ret
   exact⟨qp (by rw[hr.out];rfl),rfl⟩
  ·have h1':(s.toList==[110,111,116])=false:=by simpa using h1
   have hr:Hid (arityN s=0):=Lib.hid (by unfold arityN;rw[hc,h1'];rfl)
   clear hn h2 hc h1
   go_enter Tryz.func130,Tryz.ntmps130
   go_wp2
   go_ret
   exact⟨qp (by rw[hr.out];rfl),rfl⟩
theorem XW(T:Nat)(t:TV)(ns:List ByteArray)(cs:List ClassD)(o:OperD)(w:World)(hT:TabAt w T t)(hK:ClassesAt w t.m.classes cs)(hkb:t.m.classes.n<1000000)(hN:StrsAt w t.names ns)(hnb:t.names.n<4611686018427387904)(hL:qQ w t.classes (clsOf ns cs)) :
 Calls Tryz.prog 131 #[.pointer (some ⟨T,0,none⟩),.agg #[.string o.cls,.string o.fix]] w fun e w'=>e = .returned (.bool (operandB ns cs o))/\Below w.heap.size w w':=by
 obtain⟨oc,ofx⟩:=o
 dsimp only
 have hb:Below w.heap.size w (w.alloc (.cells #[.string oc,.string ofx] 51)):=qe
 have hT0:TabAt (w.alloc (.cells #[.string oc,.string ofx] 51)) T t:=Cells.below hT hb (Cells.lt hT)
 have K1:=xA T t cs oc _ hT0 (hK.below hb) hkb
 have K2:=yv T t ns ofx _ hT0 (hN.below hb) hnb
 have hll:(clsOf ns cs).length=cs.length:=by simp[clsOf]
 have hrg:=xy cs oc
 have K3:=XV T t (clsOf ns cs) (cIdx cs oc) (regN ns ofx) _ hT0 (hL.below hb) (by omega)
 change Calls _ _ _ _ fun e w'=>e = .returned (.int .i64 (cIdx cs oc))/\_ at K1
 have hin:(decide (0<=cIdx cs oc)&&((clsOf ns cs).getD (cIdx cs oc).toNat []).contains (regN ns ofx))=inC (clsOf ns cs) (cIdx cs oc) (regN ns ofx):=by
  unfold inC
  rw[decide_eq_true (show cIdx cs oc<((clsOf ns cs).length:Int) by omega),Bool.and_true]
 rw[hin] at K3
 have hdef:Hid (operandB ns cs ⟨oc,ofx⟩=(decide (0<=cIdx cs oc)&&(decide (ofx.toList = [])||inC (clsOf ns cs) (cIdx cs oc) (regN ns ofx)))):=Lib.hid rfl
 generalize inC (clsOf ns cs) (cIdx cs oc) (regN ns ofx)=z at *
 generalize regN ns ofx=rn at *
 generalize operandB ns cs ⟨oc,ofx⟩=res at *
 generalize cIdx cs oc=ci at *
 clear hT hT0 hK hN hL hll hin
 by_cases h0:ci<0
 ·have hr:Hid (res=false):=Lib.hid (by rw[hdef.out,decide_eq_false (by omega),Bool.false_and])
  clear hdef hrg
  go_enter Tryz.func131,Tryz.ntmps131
  go_wp2_with (go_at_call 11;refine K1.mono ?_;clear K1;rintro e W1 ⟨rfl,rfl⟩)
  go_ret
  exact⟨qg hr.out.symm,hb⟩
 ·cases he:(ofx.toList==[]) with
  |true=>
   have hr:Hid (res=true):=Lib.hid (by rw[hdef.out,decide_eq_true (by omega),decide_eq_true (by simpa using he)];rfl)
   clear hdef hrg
   go_enter Tryz.func131,Tryz.ntmps131
   go_wp2_with (go_at_call 11;refine K1.mono ?_;clear K1;rintro e W1 ⟨rfl,rfl⟩)
   go_ret
   exact⟨qg hr.out.symm,hb⟩
  |false=>
   have hr:Hid (res=z):=Lib.hid (by rw[hdef.out,decide_eq_true (by omega),decide_eq_false (by simpa using he)];simp)
   clear hdef hrg
   go_enter Tryz.func131,Tryz.ntmps131
   go_wp2_with (first
    |(go_at_call 11;refine K1.mono ?_;clear K1;rintro e W1 ⟨rfl,rfl⟩)
    |(go_at_call 55;refine K2.mono ?_;clear K2;rintro e W2 ⟨rfl,rfl⟩)
    |(go_at_call 17;refine K3.mono ?_;clear K3;rintro e W3 ⟨rfl,rfl⟩))
   go_ret
   exact⟨qg hr.out.symm,hb⟩
theorem qaC(T:Nat)(t:TV)(ns l:List ByteArray)(s:SlV)(w:World)(hT:TabAt w T t)(hN:StrsAt w t.names ns)(hnb:t.names.n<4611686018427387904)(hl:StrsAt w s l)(hbig:s.n<4611686018427387904) :
 Calls Tryz.prog 132 #[.pointer (some ⟨T,0,none⟩),.slice s.a s.n s.c] w fun e w'=>e = .returned (.bool (regsOk ns l 64 && !qv [] (regsL ns l)))/\w=w':=by
 have KR:=Lib.hid fun nm=>yv T t ns nm w hT hN hnb
 have KF:=Lib.hid fun nm=>YO s l nm w hl hbig
 have hiff:=Lib.hid (yu ns l)
 generalize(regsOk ns l 64 && !qv [] (regsL ns l))=z at *
 clear hT hN hnb
 obtain⟨a,n,c⟩:=s
 obtain⟨hn1,hcap,hl⟩:=hl
 dsimp only at hn1 hcap hl hbig KF ⊢
 subst hn1
 replace hl:=Lib.hid hl
 by_cases h64:(64:Int)<l.length
 ·have hr:Hid (z=false):=Lib.hid ((Bool.eq_false_iff).2 fun h=>by have:=(hiff.out.1 h).1;omega)
  clear hiff KR KF
  go_enter Tryz.func132,Tryz.ntmps132
  go_wp2_with fail
  go_ret
  exact⟨qg hr.out.symm,rfl⟩
 ·go_enter Tryz.func132,Tryz.ntmps132
  go_wp2_with fail
  go_loop [5] (fun i=>∃k:Nat,k<=l.length/\i = .int .i64 k/\Hid (∀ (j:Nat) (x:ByteArray),j<k->l[j]?=some x->yV ns l j x)) (fun i=>l.length-(intOf i).toNat)
  case atStart=>exact⟨0,Nat.zero_le _,rfl,Lib.hid (fun j x hj _=>absurd hj (Nat.not_lt_zero _))⟩
  case round=>
   obtain⟨k,hk,rfl,hY⟩:=hrel
   by_cases hlt:k<l.length
   ·obtain⟨x,hx⟩:∃x,l[k]?=some x:=⟨l[k],by rw[List.getElem?_eq_getElem hlt]⟩
    obtain⟨b,o,rfl,hc⟩:=hl.out k x hx
    have K1:=KR.out x
    have K2:=KF.out x
    have hgood:Hid (yV ns l k x↔0<=regN ns x/\(k:Int)<=regN l x):=Lib.hid Iff.rfl
    replace hx:=Lib.hid hx
    generalize regN ns x=rx at *
    generalize regN l x=fx at *
    by_cases h1:rx<0
    ·have hr:Hid (z=false):=Lib.hid ((Bool.eq_false_iff).2 fun h=>by
      have:=(hgood.out.1 ((hiff.out.1 h).2 k x hx.out)).1
      omega)
     clear hiff KR KF hY hgood
     go_wp2_with (go_at_call 55;refine K1.mono ?_;clear K1;rintro e W1 ⟨rfl,rfl⟩)
     go_ret
     exact⟨qg hr.out.symm,rfl⟩
    ·by_cases h2:fx<(k:Int)
     ·have hr:Hid (z=false):=Lib.hid ((Bool.eq_false_iff).2 fun h=>by
       have:=(hgood.out.1 ((hiff.out.1 h).2 k x hx.out)).2
       omega)
      clear hiff KR KF hY hgood
      go_wp2_with (first
       |(go_at_call 55;refine K1.mono ?_;clear K1;rintro e W1 ⟨rfl,rfl⟩)
       |(go_at_call 82;refine K2.mono ?_;clear K2;rintro e W1 ⟨rfl,rfl⟩))
      go_ret
      exact⟨qg hr.out.symm,rfl⟩
     ·have hY2:Hid (∀ (j:Nat) (y:ByteArray),j<k+1->l[j]?=some y->yV ns l j y):=Lib.hid fun j y hj hy=>by
       by_cases hjk:j<k
       ·exact hY.out j y hjk hy
       ·obtain rfl:j=k:=by omega
        have hxo:=hx.out
        rw[hy] at hxo
        obtain rfl:=Option.some.inj hxo
        exact hgood.out.2 ⟨by omega,by omega⟩
      clear hY hgood
      go_wp2_with (first
       |(go_at_call 55;refine K1.mono ?_;clear K1;rintro e W1 ⟨rfl,rfl⟩)
       |(go_at_call 82;refine K2.mono ?_;clear K2;rintro e W1 ⟨rfl,rfl⟩))
      go_round
      case rel=>exact⟨k+1,by omega,by go_num,hY2⟩
      case measure=>simp[intOf];omega
   ·have hr:Hid (z=true):=Lib.hid (hiff.out.2 ⟨by omega,fun j x hj=>hY.out j x (by have:=(List.getElem?_eq_some_iff.1 hj).1;omega) hj⟩)
    clear hiff KR KF hY
    go_wp2_with fail
    go_ret
    exact⟨qg hr.out.symm,rfl⟩
def listS(ns l:List ByteArray):List Int:=(regsL ns l).filter fun r=>decide (0<=r)
theorem qca(ns l:List ByteArray)(k:Nat)(x:ByteArray)(hx:l[k]?=some x):listS ns (l.take (k+1))=listS ns (l.take k)++if 0<=regN ns x then [regN ns x] else []:=by
 unfold listS regsL
 rw[List.take_add_one,hx,List.map_append,List.filter_append]
 congr 1
 by_cases h:0<=regN ns x
 ·simp[h]
 ·rw[if_neg h]
  simp only[Option.toList_some,List.map_cons,List.map_nil]
  rw[List.filter_cons,if_neg (by simpa using h)];rfl
theorem qfe(ns l:List ByteArray):(listS ns l).length<=l.length:=by
 unfold listS regsL
 exact Nat.le_trans (List.length_filter_le _ _) (by simp)
theorem je{ns l:List ByteArray}(h:∀x,x∈l->0<=regN ns x):listS ns l=regsL ns l:=by
 unfold listS regsL
 rw[List.filter_eq_self]
 intro r hr
 obtain⟨x,hx,rfl⟩:=List.mem_map.1 hr
 exact decide_eq_true (h x hx)
def zS(w:World)(L:List Int)(e:Ending)(w':World):Prop:=
 ∃s:SlV,e = .returned (.slice s.a s.n s.c)/\w'.ownsRow w.heap.size 3 1 s.v L.length (L.map (Value.int .i64))/\Below w.heap.size w w'
theorem zS.ints{w:World}{L:List Int}{e:Ending}{w':World}(h:zS w L e w'):∃s:SlV,e = .returned (.slice s.a s.n s.c)/\IntsR w' s L/\Below w.heap.size w w':=by
 obtain⟨s,h1,h2,h3⟩:=h
 exact⟨s,h1,qj h2 (Nat.zero_le _),h3⟩
theorem Xw(T:Nat)(t:TV)(ns:List ByteArray)(s:SlV)(l:List ByteArray)(w:World)(hT:TabAt w T t)(hN:StrsAt w t.names ns)(hnb:t.names.n<4611686018427387904)(hl:StrsAt w s l)(hlb:l.length<=100000) :
 Calls Tryz.prog 54 #[.pointer (some ⟨T,0,none⟩),.slice s.a s.n s.c] w (zS w (listS ns l)):=by
 obtain⟨a,n,c⟩:=s
 obtain⟨hn1,hcap,hl⟩:=hl
 dsimp only at hn1 hcap hl ⊢
 subst hn1
 replace hl:=Lib.hid hl
 have hT2:=Lib.hid hT
 have hN2:=Lib.hid hN
 clear hT hN
 go_enter Tryz.func54,Tryz.ntmps54
 go_wp2
 go_loopw [5,6] (fun v i wr=>∃ (k:Nat) (s:SlV),k<=l.length/\i = .int .i64 k/\v = .slice s.a s.n s.c/\Hid (wr.ownsRow w.heap.size 3 1 s.v (listS ns (l.take k)).length ((listS ns (l.take k)).map (Value.int .i64)))/\Below w.heap.size w wr) (fun _ i _=>l.length-(intOf i).toNat)
 case atStart=>exact⟨0,⟨none,0,0⟩,Nat.zero_le _,rfl,rfl,Lib.hid (World.ownsRow_nil _ _ _ _),Below.refl _ _⟩
 case round=>
  obtain⟨k,⟨va,vn,vc⟩,hk,rfl,rfl,hrow,hB⟩:=hrel
  dsimp only at hrow ⊢
  have k0:(0:Int)<=k:=Int.natCast_nonneg _
  by_cases hlt:k<l.length
  ·obtain⟨x,hx⟩:∃x,l[k]?=some x:=⟨l[k],by rw[List.getElem?_eq_getElem hlt]⟩
   obtain⟨b,o,rfl,hc⟩:=hl.out k x hx
   have hc':=cell_below hB hc
   have K:=yv T t ns x wr (Cells.below hT2.out hB (Cells.lt hT2.out)) (hN2.out.below hB) hnb
   have hsn:=Lib.hid (qca ns l k x hx)
   have hlen:(listS ns (l.take k)).length<=k:=Nat.le_trans (qfe _ _) (List.length_take_le _ _)
   have hBs:=hB.size
   clear hx hc
   generalize listS ns (l.take k)=L at hrow hsn hlen
   by_cases h0:0<=regN ns x
   ·have hs2:Hid (listS ns (l.take (k+1))=L++[regN ns x]):=Lib.hid (by rw[hsn.out,if_pos h0])
    generalize regN ns x=r at K hs2 h0
    obtain⟨i0,hi0,hz0,hz1,hz2⟩:=info_parts Tryz.infoInt
    clear hsn
    go_wp2_with (first
     |(go_at_call 55;refine K.mono ?_;clear K;rintro e W1 ⟨rfl,rfl⟩)
     |(at_builtin;refine wpList_append_own_at _ rfl _ _ 41 rfl w.heap.size 3 i0 _ 1 8 Tryz.underlying41 hi0 hz0 hz1 hz2 rfl (by decide) _ L.length (L.map (Value.int .i64)) rfl (hrow.out.alloc _) ⟨wr.heap.size,0,none⟩ 1 1 [.int .i64 r] rfl rfl (qF _ _ _ _ rfl) (by simp[Value.oneCell']) (by unfold maxLen;omega) (by omega) (by simp;omega) ?_;intro v' W7 hown7 hgrow _ hblk;obtain⟨g',cap',rfl⟩:=ownsRow_succ hown7))
    have hB7:Below w.heap.size w W7:=(hB.alloc hBs _).grown hgrow (by simp;omega) (fun g hg=>(qd hrow.out hg).1)
    replace hown7:Hid (W7.ownsRow w.heap.size 3 1 (SlV.v ⟨some ⟨g',0,none⟩,L.length+1,cap'⟩) (listS ns (l.take (k+1))).length ((listS ns (l.take (k+1))).map (Value.int .i64))):=Lib.hid (by
     rw[hs2.out,List.length_append,List.map_append];exact hown7)
    exact⟨⟨k+1,⟨some ⟨g',0,none⟩,L.length+1,cap'⟩,by omega,by go_num,rfl,hown7,hB7⟩,by simp[intOf];omega⟩
   ·have hs2:Hid (listS ns (l.take (k+1))=L):=Lib.hid (by rw[hsn.out,if_neg h0,List.append_nil])
    generalize regN ns x=r at K hs2 h0
    clear hsn
    go_wp2_with (go_at_call 55;refine K.mono ?_;clear K;rintro e W1 ⟨rfl,rfl⟩)
    exact⟨⟨k+1,⟨va,vn,vc⟩,by omega,by go_num,rfl,Lib.hid (by rw[hs2.out];exact hrow.out),hB⟩,by simp[intOf];omega⟩
  ·have hfin:zS w (listS ns l) (.returned (.slice va vn vc)) wr:=⟨⟨va,vn,vc⟩,rfl,by
    have:=hrow.out
    rw[List.take_of_length_le (by omega)] at this
    exact this,hB⟩
   replace hfin:=Lib.hid hfin
   clear hrow
   go_wp2_with fail
   go_ret
   exact hfin.out
structure TabOk(w:World)(T:Nat)(t:TV)(d:MachD)(ns:List ByteArray)(ps:List Plc)(cls:List (List Int)):Prop where
 tab:TabAt w T t
 names:StrsAt w t.names ns
 places:qP w t.cv ps
 len:ns.length=ps.length
 few:ps.length<=200
 kls:ClassesAt w t.m.classes d.classes
 ops:OpsAt w t.m.ops d.ops
 args:StrsAt w t.m.args d.args
 saved:StrsAt w t.m.saved d.saved
 res:t.m.result=d.result
 sl:t.m.slots=d.slots
 kb:d.classes.length<=100000
 ob:d.ops.length<=100000
 ab:d.args.length<=100000
 sb:d.saved.length<=100000
 rb:∀k:ClassD,k∈d.classes->k.regs.length<=100000
 cb:∀o:OpD,o∈d.ops->o.clob.length<=100000
 ub:∀o:OpD,o∈d.ops->o.uses.length<=100000
 lists:qQ w t.classes cls
theorem TabOk.below{w w':World}{T:Nat}{t:TV}{d:MachD}{ns:List ByteArray}{ps:List Plc}{cls:List (List Int)}(h:TabOk w T t d ns ps cls)(hb:Below w.heap.size w w'):TabOk w' T t d ns ps cls:=
 { h with tab:=Cells.below h.tab hb (Cells.lt h.tab),names:=h.names.below hb,places:=h.places.below hb,kls:=h.kls.below hb,ops:=h.ops.below hb,args:=h.args.below hb,saved:=h.saved.below hb,lists:=h.lists.below hb }
theorem TabOk.nbig{w:World}{T:Nat}{t:TV}{d:MachD}{ns:List ByteArray}{ps:List Plc}{cls:List (List Int)}(h:TabOk w T t d ns ps cls):t.names.n<4611686018427387904:=by
 have:=h.names.1;have:=h.len;have:=h.few;omega
theorem TabOk.kbig{w:World}{T:Nat}{t:TV}{d:MachD}{ns:List ByteArray}{ps:List Plc}{cls:List (List Int)}(h:TabOk w T t d ns ps cls):t.m.classes.n<1000000:=by
 have:=h.kls.1;have:=h.kb;omega
theorem TabOk.obig{w:World}{T:Nat}{t:TV}{d:MachD}{ns:List ByteArray}{ps:List Plc}{cls:List (List Int)}(h:TabOk w T t d ns ps cls):t.m.ops.n<1000000:=by
 have:=h.ops.1;have:=h.ob;omega
theorem YP(T:Nat)(t:TV)(d:MachD)(ns:List ByteArray)(ps:List Plc)(cls:List (List Int))(k:Nat)(x:OpD)(w:World)(h:TabOk w T t d ns ps cls)(hx:d.ops[k]?=some x) :
 Calls Tryz.prog 24 #[.pointer (some ⟨T,0,none⟩),.int .i64 k] w (zS w (listS ns x.clob)):=by
 obtain⟨b,o,ha,u,kk,hc0,hc1,hc2,hc3,hc4,hc5,hcu,hck⟩:=h.ops.2.2 k x hx
 have hlt:=(List.getElem?_eq_some_iff.1 hx).1
 have K:=Xw T t ns kk x.clob w h.tab h.names h.nbig hck (h.cb x (List.mem_of_getElem? hx))
 have c3:=Cells.cell h.tab (j:=3) (v:=.slice t.m.ops.a t.m.ops.n t.m.ops.c) rfl
 have hn:=h.ops.1
 have hcap:=h.ops.2.1
 rw[ha] at c3
 have k0:(0:Int)<=k:=Int.natCast_nonneg _
 have i1:k<t.m.ops.n:=by omega
 have i2:(k:Int)<t.m.ops.n:=by omega
 generalize t.m.ops.n=pn at *
 generalize t.m.ops.c=pc at *
 clear h hx hlt ha hn hcu hck hc0 hc1 hc2 hc3 hc4
 go_enter Tryz.func24,Tryz.ntmps24
 go_wp2_with (go_at_call 54;refine K.mono ?_;clear K;rintro e W1 ⟨s,rfl,hr,hb⟩;replace hr:=Lib.hid hr)
 go_ret
 exact⟨s,rfl,hr.out,hb⟩
theorem qcP(T:Nat)(t:TV)(d:MachD)(ns:List ByteArray)(ps:List Plc)(cls:List (List Int))(w:World)(h:TabOk w T t d ns ps cls) :
 Calls Tryz.prog 27 #[.pointer (some ⟨T,0,none⟩)] w (zS w (listS ns d.args)):=by
 have K:=Xw T t ns t.m.args d.args w h.tab h.names h.nbig h.args h.ab
 have c3:=Cells.cell h.tab (j:=4) (v:=.slice t.m.args.a t.m.args.n t.m.args.c) rfl
 clear h
 go_enter Tryz.func27,Tryz.ntmps27
 go_wp2_with (go_at_call 54;refine K.mono ?_;clear K;rintro e W1 ⟨s,rfl,hr,hb⟩;replace hr:=Lib.hid hr)
 go_ret
 exact⟨s,rfl,hr.out,hb⟩
theorem Ye(T:Nat)(t:TV)(d:MachD)(ns:List ByteArray)(ps:List Plc)(cls:List (List Int))(w:World)(h:TabOk w T t d ns ps cls) :
 Calls Tryz.prog 30 #[.pointer (some ⟨T,0,none⟩)] w fun e w'=>e = .returned (.int .i64 (regN ns d.result))/\w=w':=by
 have K:=yv T t ns t.m.result w h.tab h.names h.nbig
 rw[h.res] at K
 have c5:=Cells.cell h.tab (j:=5) (v:=.string t.m.result) rfl
 rw[h.res] at c5
 clear h
 go_enter Tryz.func30,Tryz.ntmps30
 go_wp2_with (go_at_call 55;refine K.mono ?_;clear K;rintro e W1 ⟨rfl,rfl⟩)
 go_ret
 exact⟨rfl,rfl⟩
def qcQ(w:World)(L:List Int)(e:Ending)(w':World):Prop:=∃s:SlV,e = .returned (.slice s.a s.n s.c)/\IntsR w' s L/\Below w.heap.size w w'
theorem choice_fix{ns:List ByteArray}{cs:List ClassD}{o:OperD}(hg:operandB ns cs o=true)(hf:o.fix.toList ≠ []):choiceS ns cs o = [regN ns o.fix]/\0<=regN ns o.fix∨choiceS ns cs o = [regN ns o.fix]/\regN ns o.fix = -1:=by
 unfold operandB at hg
 simp only[Bool.and_eq_true,decide_eq_true_eq,Bool.or_eq_true] at hg
 obtain⟨h0,h1⟩:=hg
 have h2:=h1.resolve_left hf
 unfold inC at h2
 simp only[Bool.and_eq_true,decide_eq_true_eq] at h2
 have hr:=qA ns o.fix
 have he:choiceS ns cs o = [regN ns o.fix]:=by
  rw[jo,if_neg (by omega),if_neg hf,if_pos h2.2]
 by_cases h:0<=regN ns o.fix
 ·exact .inl ⟨he,h⟩
 ·exact .inr ⟨he,by omega⟩
theorem xB(T:Nat)(t:TV)(d:MachD)(ns:List ByteArray)(ps:List Plc)(x:OperD)(w:World)(h:TabOk w T t d ns ps (clsOf ns d.classes))(hg:operandB ns d.classes x=true)(hnn:∀r,r∈choiceS ns d.classes x->0<=r) :
 Calls Tryz.prog 52 #[.pointer (some ⟨T,0,none⟩),.agg #[.string x.cls,.string x.fix]] w (qcQ w (choiceS ns d.classes x)):=by
 obtain⟨xc,xf⟩:=x
 dsimp only
 have hb0:Below w.heap.size w (w.alloc (.cells #[.string xc,.string xf] 51)):=qe
 have h0:=h.below hb0
 have K1:=xA T t d.classes xc _ h0.tab h0.kls h0.kbig
 change Calls _ _ _ _ fun e w'=>e = .returned (.int .i64 (cIdx d.classes xc))/\_ at K1
 have hll:(clsOf ns d.classes).length=d.classes.length:=by simp[clsOf]
 have hrg:=xy d.classes xc
 have hci:0<=cIdx d.classes xc:=by
  unfold operandB at hg
  simp only[Bool.and_eq_true,decide_eq_true_eq] at hg
  exact hg.1
 cases he:(xf.toList==[]) with
 |true=>
  have hef:xf.toList = []:=by simpa using he
  have hch:choiceS ns d.classes ⟨xc,xf⟩=(clsOf ns d.classes).getD (cIdx d.classes xc).toNat []:=by
   rw[jo]
   dsimp only
   rw[if_neg (by omega),if_pos hef]
  rw[hch]
  obtain⟨k,hk⟩:∃k:Nat,cIdx d.classes xc=k:=⟨(cIdx d.classes xc).toNat,by omega⟩
  rw[hk] at K1 hci hrg ⊢
  rw[Int.toNat_natCast]
  have hkl:k<(clsOf ns d.classes).length:=by omega
  obtain⟨l,hl⟩:∃l,(clsOf ns d.classes)[k]?=some l:=⟨_,List.getElem?_eq_getElem hkl⟩
  have hgd:(clsOf ns d.classes).getD k []=l:=by rw[List.getD_eq_getElem?_getD,hl];rfl
  rw[hgd]
  obtain⟨b,o,v,ha,hcell,hI,hlen,_,hcap⟩:=h0.lists.get hl
  have hn:=h0.lists.len
  have c10:=Cells.cell h0.tab (j:=10) (v:=.slice t.classes.a t.classes.n t.classes.c) rfl
  rw[ha] at c10
  have i1:k<t.classes.n:=by omega
  have i2:(k:Int)<t.classes.n:=by omega
  generalize t.classes.n=pn at *
  generalize t.classes.c=pc at *
  replace hI:=Lib.hid hI
  clear h h0 hg hnn hll hch hk hkl hl hgd ha hn hrg hef
  go_enter Tryz.func52,Tryz.ntmps52
  go_wp2_with (go_at_call 11;refine K1.mono ?_;clear K1;rintro e W1 ⟨rfl,rfl⟩)
  go_ret
  exact⟨v,rfl,hI.out,hb0⟩
 |false=>
  have hef:xf.toList ≠ []:=by simpa using he
  have hch:choiceS ns d.classes ⟨xc,xf⟩ = [regN ns xf]/\0<=regN ns xf:=by
   rcases choice_fix hg hef with h1|⟨h1,h2⟩
   ·exact h1
   ·have:=hnn (regN ns xf) (by rw[h1];simp)
    exact⟨h1,this⟩
  have hls:listS ns [xf] = [regN ns xf]:=by
   unfold listS regsL
   simp[hch.2]
  have hbW:Below w.heap.size w ((w.alloc (.cells #[.string xc,.string xf] 51)).alloc (.cells #[.string xf] 9)):=hb0.alloc (by simp) _
  have h1:=h.below hbW
  have K2:=Xw T t ns ⟨some ⟨w.heap.size+1,0,none⟩,1,1⟩ [xf] _ h1.tab h1.names h1.nbig ⟨rfl,Nat.le_refl _,fun j x hj=>⟨_,_,rfl,by
   cases j with
   |zero=>
    cases hj
    have:=qC (w.alloc (.cells #[.string xc,.string xf] 51)) #[.string xf] 9 (j:=0) rfl
    rw[World.size_alloc] at this;exact this
   | succ j=>simp at hj⟩⟩ (by simp)
  rw[hls] at K2
  rw[hch.1]
  dsimp only at K2
  generalize cIdx d.classes xc=ci at *
  generalize regN ns xf=rn at *
  have hci2:¬ ci<0:=by omega
  clear h h0 h1 hg hnn hll hch hls hef hrg
  go_enter Tryz.func52,Tryz.ntmps52
  go_wp2_with (first
   |(go_at_call 11;refine K1.mono ?_;clear K1;rintro e W1 ⟨rfl,rfl⟩)
   |(go_at_call 54;go_loud (refine K2.mono ?_;clear K2;rintro e W1 ⟨s,rfl,hr,hb⟩;replace hr:=Lib.hid hr)))
  go_ret
  exact⟨s,rfl,qj hr.out (Nat.zero_le _),hbW.trans (hb.mono (by simp;omega))⟩
def clearL(ps:List Plc)(L:List Int)(r:Int):Bool:=L.all fun c=>!lapP (plc ps c) (plc ps r)
theorem qaD{ps:List Plc}{L:List Int}{r c:Int}{j:Nat}(h:clearL ps (L.take j) r=true)(hj:L[j]?=some c)(hc:lapP (plc ps c) (plc ps r)=false):clearL ps (L.take (j+1)) r=true:=by
 unfold clearL at h ⊢
 rw[List.take_add_one,hj,List.all_append,h]
 simp[hc]
theorem qcb{ps:List Plc}{L:List Int}{r c:Int}{j:Nat}(hj:L[j]?=some c)(hc:lapP (plc ps c) (plc ps r)=true):clearL ps L r=false:=by
 unfold clearL
 rw[Bool.eq_false_iff]
 intro h
 have:=List.all_eq_true.1 h c (List.mem_of_getElem? hj)
 rw[hc] at this;cases this
theorem qgl{ns:List ByteArray}{ps:List Plc}{l:List ByteArray}(hs:ns.length=ps.length)(h:∀y,y∈l->0<=regN ns y):∀r,r∈regsL ns l->Num ps r:=fun r hr=>by
 obtain⟨y,hy,rfl⟩:=List.mem_map.1 hr
 have:=qA ns y
 exact⟨h y hy,by omega⟩
theorem qaE(T:Nat)(t:TV)(d:MachD)(ns:List ByteArray)(ps:List Plc)(cls:List (List Int))(k:Nat)(x:OpD)(r:Int)(w:World)(h:TabOk w T t d ns ps cls)(hx:d.ops[k]?=some x)(hr:Num ps r)(hk:∀y,y∈x.clob->0<=regN ns y) :
 Calls Tryz.prog 53 #[.pointer (some ⟨T,0,none⟩),.int .i64 k,.int .i64 r] w fun e w'=>e = .returned (.bool (clearL ps (regsL ns x.clob) r))/\Below w.heap.size w w':=by
 have K:=YP T t d ns ps cls k x w h hx
 have hcb:=h.cb x (List.mem_of_getElem? hx)
 rw[je hk] at K
 have hnum:=qgl h.len hk
 have hLl:(regsL ns x.clob).length<=100000:=by simp[regsL];exact hcb
 generalize regsL ns x.clob=L at *
 have h2:=Lib.hid h
 replace hnum:=Lib.hid hnum
 clear h hx hk hcb
 go_enter Tryz.func53,Tryz.ntmps53
 go_wp2_with (go_at_call 24;refine K.mono ?_;clear K;rintro e W1 hpost;obtain⟨⟨sa,sn,sc⟩,rfl,hI,hb1⟩:=hpost.ints;clear hpost)
 have hsn:=hI.len
 dsimp only at hsn
 subst hsn
 replace hI:=Lib.hid hI
 go_loopw [8] (fun i wr=>∃j:Nat,j<=L.length/\i = .int .i64 j/\Hid (clearL ps (L.take j) r=true)/\Below W1.heap.size W1 wr) (fun i _=>L.length-(intOf i).toNat)
 case atStart=>exact⟨0,Nat.zero_le _,rfl,Lib.hid rfl,Below.refl _ _⟩
 case round=>
  obtain⟨j,hj,rfl,hA,hB⟩:=hrel
  have j0:(0:Int)<=j:=Int.natCast_nonneg _
  by_cases hlt:j<L.length
  ·obtain⟨c,hc⟩:∃c,L[j]?=some c:=⟨L[j],by rw[List.getElem?_eq_getElem hlt]⟩
   obtain⟨b,o,rfl,hcell⟩:=hI.out.at_.2.2 j c hc
   replace hcell:=cell_below hB hcell
   have hAll:=hb1.trans (hB.mono hb1.size)
   have h3:=h2.out.below hAll
   have K:=jR T t ps c r wr h3.tab h3.places (hnum.out c (List.mem_of_getElem? hc)) hr
   have j1:(j:Int)<L.length:=by omega
   clear h3
   cases hl:lapP (plc ps c) (plc ps r) with
   |true=>
    have hres:Hid (clearL ps L r=false):=Lib.hid (qcb hc hl)
    rw[hl] at K
    clear hl hc hA
    go_wp2_with fail
    go_at_call 61
    refine K.mono ?_
    clear K
    rintro e W3 ⟨rfl,hb3⟩
    go_wp2_with fail
    go_ret
    exact⟨qg hres.out.symm,hAll.trans (hb3.mono hAll.size)⟩
   |false=>
    have hA2:=Lib.hid (qaD hA.out hc hl)
    rw[hl] at K
    clear hl hc hA
    go_wp2_with fail
    go_at_call 61
    refine K.mono ?_
    clear K
    rintro e W3 ⟨rfl,hb3⟩
    go_wp2_with fail
    exact⟨⟨j+1,by omega,by go_num,hA2,hB.trans (hb3.mono hB.size)⟩,by simp[intOf];omega⟩
  ·have hres:Hid (clearL ps L r=true):=Lib.hid (by
    have:=hA.out
    rw[List.take_of_length_le (by omega)] at this;exact this)
   clear hA
   go_wp2_with fail
   go_ret
   exact⟨qg hres.out.symm,hb1.trans (hB.mono hb1.size)⟩
theorem qgm(T:Nat)(t:TV)(d:MachD)(ns:List ByteArray)(ps:List Plc)(k:Nat)(x:OpD)(r:Int)(w:World)(h:TabOk w T t d ns ps (clsOf ns d.classes))(hx:d.ops[k]?=some x)(hr:Num ps r)(hk:∀y,y∈x.clob->0<=regN ns y)
 (hg:operandB ns d.classes x.d=true) (hnn:∀r,r∈choiceS ns d.classes x.d->0<=r) (hlen:(choiceS ns d.classes x.d).length<=100000) :
 Calls Tryz.prog 21 #[.pointer (some ⟨T,0,none⟩),.int .i64 k,.int .i64 0,.int .i64 r] w fun e w'=>e = .returned (.bool ((choiceS ns d.classes x.d).contains r&&clearL ps (regsL ns x.clob) r))/\Below w.heap.size w w':=by
 obtain⟨b,o,ha,u,kk,hc0,hc1,hc2,hc3,hc4,hc5,hcu,hck⟩:=h.ops.2.2 k x hx
 have hlt:=(List.getElem?_eq_some_iff.1 hx).1
 have K1:=fun W (hb:Below w.heap.size w W)=>xB T t d ns ps x.d W (h.below hb) hg hnn
 have K2:=fun W (hb:Below w.heap.size w W)=>qaE T t d ns ps _ k x r W (h.below hb) hx hr hk
 have c3:=Cells.cell h.tab (j:=3) (v:=.slice t.m.ops.a t.m.ops.n t.m.ops.c) rfl
 have hn:=h.ops.1
 have hcap:=h.ops.2.1
 have hun:=hcu.1
 rw[ha] at c3
 have k0:(0:Int)<=k:=Int.natCast_nonneg _
 have i1:k<t.m.ops.n:=by omega
 have i2:(k:Int)<t.m.ops.n:=by omega
 have u0:¬ (u.n:Int)<0:=by omega
 generalize t.m.ops.n=pn at *
 generalize t.m.ops.c=pc at *
 generalize clearL ps (regsL ns x.clob) r=q at *
 generalize choiceS ns d.classes x.d=L at *
 obtain⟨xn,⟨xc,xf⟩,xu,xt,xk⟩:=x
 dsimp only at hc0 hc1 hc2 hc3 hc4 hc5 K1
 obtain⟨cq,hcq⟩:∃cq,cq=L.contains r:=⟨_,rfl⟩
 rw[←hcq]
 replace hcq:=Lib.hid hcq
 clear h hx hlt ha hn hcu hck hg hnn hk hun
 go_enter Tryz.func21,Tryz.ntmps21
 go_wp2_with fail
 go_at_call 52
 refine(K1 _ (Below.refl _ _)).mono ?_
 rintro e W1 ⟨s,rfl,hI,hb1⟩
 have K3:=qaB s L r W1 hI.at_ (by have:=hI.len;omega)
 replace hI:=Lib.hid hI
 rw[←hcq.out] at K3
 clear hcq
 cases cq
 all_goals
  go_wp2_with (first
   |(go_at_call 49;refine K3.mono ?_;clear K3;rintro e W2 ⟨rfl,rfl⟩)
   |(go_at_call 53;refine(K2 _ hb1).mono ?_;clear K2;rintro e W3 ⟨rfl,hb3⟩))
  go_ret
  exact⟨qg (by rfl),hb1.trans (hb3.mono hb1.size)⟩
theorem zh{α:Type}{p:α->Bool}{l:List α}{k:Nat}{a:α}(h:(l.take k).any p=false)(hk:l[k]?=some a)(ha:p a=false):(l.take (k+1)).any p=false:=by
 rw[List.take_add_one,hk,List.any_append,h]
 simp[ha]
theorem xG{α:Type}{p:α->Bool}{l:List α}{k:Nat}{a:α}(hk:l[k]?=some a)(ha:p a=true):l.any p=true:=List.any_eq_true.2 ⟨a,List.mem_of_getElem? hk,ha⟩
theorem Qm{α:Type}{p:α->Bool}{l:List α}{k:Nat}(h:(l.take k).any p=false)(hk:l.length<=k):l.any p=false:=by
 rwa [List.take_of_length_le hk] at h
def qaF(ps:List Plc)(cls:List (List Int))(a b:Int):Bool:=
 (decide (0<=a)&&decide (0<=b)&&decide (a<cls.length)&&decide (b<cls.length))&&qt ps [cls.getD a.toNat [],cls.getD b.toNat []]
theorem qaG(T:Nat)(t:TV)(d:MachD)(ns:List ByteArray)(ps:List Plc)(cls:List (List Int))(a b:Int)(w:World)(h:TabOk w T t d ns ps cls)(ho:a<0∨b<0∨(cls.length:Int)<=a∨(cls.length:Int)<=b) :
 Calls Tryz.prog 63 #[.pointer (some ⟨T,0,none⟩),.int .i64 a,.int .i64 b] w fun e w'=>e = .returned (.bool false)/\w=w':=by
 have c10:=Cells.cell h.tab (j:=10) (v:=.slice t.classes.a t.classes.n t.classes.c) rfl
 have hn:=h.lists.len
 rw[←hn] at ho
 generalize t.classes.n=pn at *
 generalize t.classes.c=pc at *
 generalize t.classes.a=pa at *
 clear h hn
 by_cases ha:a<0
 ·clear ho
  go_enter Tryz.func63,Tryz.ntmps63
  go_wp2_with fail
  go_ret
  exact⟨rfl,rfl⟩
 ·by_cases hb:b<0
  ·clear ho
   go_enter Tryz.func63,Tryz.ntmps63
   go_wp2_with fail
   go_ret
   exact⟨rfl,rfl⟩
  ·by_cases ha2:(pn:Int)<=a
   ·clear ho
    go_enter Tryz.func63,Tryz.ntmps63
    go_wp2_with fail
    go_ret
    exact⟨rfl,rfl⟩
   ·have hb2:(pn:Int)<=b:=by omega
    clear ho
    go_enter Tryz.func63,Tryz.ntmps63
    go_wp2_with fail
    go_ret
    exact⟨rfl,rfl⟩
theorem qcc(T:Nat)(t:TV)(d:MachD)(ns:List ByteArray)(ps:List Plc)(cls:List (List Int))(ia ib:Nat)(A B:List Int)(w:World)(h:TabOk w T t d ns ps cls)(hnum:∀l,l∈cls->∀x,x∈l->Num ps x)(hA:cls[ia]?=some A)(hB:cls[ib]?=some B) :
 Calls Tryz.prog 63 #[.pointer (some ⟨T,0,none⟩),.int .i64 ia,.int .i64 ib] w fun e w'=>e = .returned (.bool (A.any fun x=>B.any fun y=>!lapP (plc ps x) (plc ps y)))/\Below w.heap.size w w':=by
 have hnA:=hnum A (List.mem_of_getElem? hA)
 have hnB:=hnum B (List.mem_of_getElem? hB)
 obtain⟨cb,co,vA,haA,hcA,hIA,hlA,_,_⟩:=h.lists.get hA
 obtain⟨cb',co',vB,haB,hcB,hIB,hlB,_,hcap⟩:=h.lists.get hB
 rw[haA] at haB
 cases haB
 have c10:=Cells.cell h.tab (j:=10) (v:=.slice t.classes.a t.classes.n t.classes.c) rfl
 have hn:=h.lists.len
 have hlt1:=(List.getElem?_eq_some_iff.1 hA).1
 have hlt2:=(List.getElem?_eq_some_iff.1 hB).1
 rw[haA] at c10
 have a0:(0:Int)<=ia:=Int.natCast_nonneg _
 have b0:(0:Int)<=ib:=Int.natCast_nonneg _
 have a1:ia<t.classes.n:=by omega
 have b1:ib<t.classes.n:=by omega
 have a2:(ia:Int)<t.classes.n:=by omega
 have b2:(ib:Int)<t.classes.n:=by omega
 have nA:=hIA.len
 have nB:=hIB.len
 obtain⟨vAa,vAn,vAc⟩:=vA
 obtain⟨vBa,vBn,vBc⟩:=vB
 dsimp only at nA nB hcA hcB
 subst nA nB
 generalize t.classes.n=pn at *
 generalize t.classes.c=pc at *
 have h2:=Lib.hid h
 replace hnA:=Lib.hid hnA
 replace hnB:=Lib.hid hnB
 replace hIA:=Lib.hid hIA
 replace hIB:=Lib.hid hIB
 clear h hnum hA hB haA hn hlt1 hlt2
 go_enter Tryz.func63,Tryz.ntmps63
 go_wp2_with fail
 go_loopw [7,8] (fun i _ wr=>∃j:Nat,j<=A.length/\i = .int .i64 j/\Hid (((A.take j).any fun x=>B.any fun y=>!lapP (plc ps x) (plc ps y))=false)/\Below w.heap.size w wr) (fun i _ _=>A.length-(intOf i).toNat)
 case atStart=>exact⟨0,Nat.zero_le _,rfl,Lib.hid rfl,Below.refl _ _⟩
 case round=>
  obtain⟨j,hj,rfl,hE,hBl⟩:=hrel
  have j0:(0:Int)<=j:=Int.natCast_nonneg _
  have e10:=cell_below hBl c10
  have eA:=cell_below hBl hcA
  have eB:=cell_below hBl hcB
  by_cases hlt:j<A.length
  ·obtain⟨x,hx⟩:∃x,A[j]?=some x:=⟨A[j],by rw[List.getElem?_eq_getElem hlt]⟩
   obtain⟨ba,oa,rfl,hcx⟩:=hIA.out.at_.2.2 j x hx
   have hnx:=hnA.out x (List.mem_of_getElem? hx)
   replace hx:=Lib.hid hx
   replace hnx:=Lib.hid hnx
   obtain⟨wo,rfl⟩:∃wo:World,wo=wr:=⟨_,rfl⟩
   go_wp2_with fail
   go_loopw [8] (fun i wr=>∃k:Nat,k<=B.length/\i = .int .i64 k/\Hid (((B.take k).any fun y=>!lapP (plc ps x) (plc ps y))=false)/\Below w.heap.size w wr) (fun i _=>B.length-(intOf i).toNat)
   case atStart=>exact⟨0,Nat.zero_le _,rfl,Lib.hid rfl,hBl⟩
   case round=>
    obtain⟨k,hk,rfl,hF,hBk⟩:=hrel
    have k0:(0:Int)<=k:=Int.natCast_nonneg _
    clear e10 eA eB hBl
    have e10:=cell_below hBk c10
    have eA:=cell_below hBk hcA
    have eB:=cell_below hBk hcB
    by_cases hlk:k<B.length
    ·obtain⟨y,hy⟩:∃y,B[k]?=some y:=⟨B[k],by rw[List.getElem?_eq_getElem hlk]⟩
     obtain⟨bb,ob,rfl,hcy⟩:=hIB.out.at_.2.2 k y hy
     have hny:=hnB.out y (List.mem_of_getElem? hy)
     have ex:=cell_below hBk hcx
     have ey:=cell_below hBk hcy
     have h3:=h2.out.below hBk
     have j1:(j:Int)<A.length:=by omega
     have k1:(k:Int)<B.length:=by omega
     have K:=fun W (hb:Below wr.heap.size wr W)=>jR T t ps x y W (h3.below hb).tab (h3.below hb).places hnx.out hny
     cases hl:lapP (plc ps x) (plc ps y) with
     |true=>
      have hF2:=Lib.hid (zh (p:=fun y=>!lapP (plc ps x) (plc ps y)) hF.out hy (by simp[hl]))
      rw[hl] at K
      clear h3 hl hy hny hF
      go_wp2_with fail
      go_region_held3 (fun w'=>w'.cell? ⟨T,10,none⟩=some (.slice (some ⟨cb,co,none⟩) pn pc)/\w'.cell? ⟨cb,co+ia,none⟩=some (.slice (some ⟨ba,oa,none⟩) A.length vAc)/\w'.cell? ⟨cb,co+ib,none⟩=some (.slice (some ⟨bb,ob,none⟩) B.length vBc)/\w'.cell? ⟨ba,oa+j,none⟩=some (.int .i64 x)/\w'.cell? ⟨bb,ob+k,none⟩=some (.int .i64 y))
       (go_keep)
       ((go_at_call 61;refine(K _ (Below.refl _ _).drew).mono ?_;clear K;rintro e W2 ⟨rfl,hb2⟩;have q0:=cell_below hb2 e10;have q1:=cell_below hb2 eA;have q2:=cell_below hb2 eB;have q3:=cell_below hb2 ex;have q4:=cell_below hb2 ey))
      go_wp2_with fail
      exact⟨⟨k+1,by omega,by go_num,hF2,hBk.trans (((Below.refl _ _).drew.trans hb2).mono hBk.size)⟩,by simp[intOf];omega⟩
     |false=>
      have hF2:Hid ((A.any fun x=>B.any fun y=>!lapP (plc ps x) (plc ps y))=true):=Lib.hid (xG hx.out (xG hy (by simp[hl])))
      rw[hl] at K
      clear h3 hl hy hny hF
      go_wp2_with fail
      go_region_held3 (fun w'=>w'.cell? ⟨T,10,none⟩=some (.slice (some ⟨cb,co,none⟩) pn pc)/\w'.cell? ⟨cb,co+ia,none⟩=some (.slice (some ⟨ba,oa,none⟩) A.length vAc)/\w'.cell? ⟨cb,co+ib,none⟩=some (.slice (some ⟨bb,ob,none⟩) B.length vBc)/\w'.cell? ⟨ba,oa+j,none⟩=some (.int .i64 x)/\w'.cell? ⟨bb,ob+k,none⟩=some (.int .i64 y))
       (go_keep)
       ((go_at_call 61;refine(K _ (Below.refl _ _).drew).mono ?_;clear K;rintro e W2 ⟨rfl,hb2⟩;have q0:=cell_below hb2 e10;have q1:=cell_below hb2 eA;have q2:=cell_below hb2 eB;have q3:=cell_below hb2 ex;have q4:=cell_below hb2 ey))
      go_wp2_with fail
      go_ret
      exact⟨qg hF2.out.symm,hBk.trans (((Below.refl _ _).drew.trans hb2).mono hBk.size)⟩
    ·have hE2:=Lib.hid (zh (p:=fun x=>B.any fun y=>!lapP (plc ps x) (plc ps y)) hE.out hx.out (Qm hF.out (by omega)))
     clear hF
     go_wp2_with fail
     exact⟨⟨j+1,by omega,by go_num,hE2,hBk⟩,by simp[intOf];omega⟩
  ·have hres:=Lib.hid (Qm hE.out (by omega))
   clear hE
   go_wp2_with fail
   go_ret
   exact⟨qg hres.out.symm,hBl⟩
theorem qgn(T:Nat)(t:TV)(d:MachD)(ns:List ByteArray)(ps:List Plc)(cls:List (List Int))(a b:Int)(w:World)(h:TabOk w T t d ns ps cls)(hnum:∀l,l∈cls->∀x,x∈l->Num ps x) :
 Calls Tryz.prog 63 #[.pointer (some ⟨T,0,none⟩),.int .i64 a,.int .i64 b] w fun e w'=>e = .returned (.bool (qaF ps cls a b))/\Below w.heap.size w w':=by
 by_cases ho:a<0∨b<0∨(cls.length:Int)<=a∨(cls.length:Int)<=b
 ·refine(qaG T t d ns ps cls a b w h ho).mono fun e w' ⟨he,hw⟩=>⟨?_,by subst hw;exact Below.refl _ _⟩
  rw[he]
  refine qg ?_
  unfold qaF
  rcases ho with ho|ho|ho|ho
  ·rw[decide_eq_false (by omega)];simp
  ·rw[decide_eq_false (p:=0<=b) (by omega)];simp
  ·rw[decide_eq_false (p:=a<(cls.length:Int)) (by omega)];simp
  ·rw[decide_eq_false (p:=b<(cls.length:Int)) (by omega)];simp
 ·obtain⟨i,rfl⟩:∃i:Nat,a=i:=⟨a.toNat,by omega⟩
  obtain⟨j,rfl⟩:∃j:Nat,b=j:=⟨b.toNat,by omega⟩
  have hi:i<cls.length:=by omega
  have hj:j<cls.length:=by omega
  refine(qcc T t d ns ps cls i j cls[i] cls[j] w h hnum (List.getElem?_eq_getElem hi) (List.getElem?_eq_getElem hj)).mono fun e w' ⟨he,hw⟩=>⟨?_,hw⟩
  rw[he]
  refine qg ?_
  unfold qaF
  rw[decide_eq_true (by omega),decide_eq_true (by omega),decide_eq_true (by omega),decide_eq_true (by omega),xW]
  simp[List.getD_eq_getElem?_getD,hi,hj]
def apartR(ns:List ByteArray)(ps:List Plc)(l:List ByteArray):Bool:=!(regsL ns l).contains (-1)&&apartB ps (regsL ns l)
theorem yx(ns:List ByteArray)(ps:List Plc)(l:List ByteArray):apartR ns ps l=true↔∀ (j:Nat) (x:ByteArray),l[j]?=some x->xz ns ps l j x:=by
 rw[←ZI]
 unfold apartR
 rw[Bool.and_eq_true,Bool.not_eq_true']
theorem Yf{ns:List ByteArray}{ps:List Plc}{l:List ByteArray}{j:Nat}{x:ByteArray}(hj:l[j]?=some x)(h:¬ xz ns ps l j x):apartR ns ps l=false:=
 Bool.eq_false_iff.2 fun ht=>h ((yx ns ps l).1 ht j x hj)
theorem qaH(T:Nat)(t:TV)(d:MachD)(ns:List ByteArray)(ps:List Plc)(cls:List (List Int))(s:SlV)(l:List ByteArray)(w:World)(h:TabOk w T t d ns ps cls)(hl:StrsAt w s l)(hlb:l.length<=100000) :
 Calls Tryz.prog 60 #[.pointer (some ⟨T,0,none⟩),.slice s.a s.n s.c] w fun e w'=>e = .returned (.bool (apartR ns ps l))/\Below w.heap.size w w':=by
 obtain⟨a,n,c⟩:=s
 obtain⟨hn1,hcap,hl⟩:=hl
 dsimp only at hn1 hcap hl ⊢
 subst hn1
 replace hl:=Lib.hid hl
 have h2:=Lib.hid h
 clear h
 go_enter Tryz.func60,Tryz.ntmps60
 go_wp2_with fail
 go_loopw [5] (fun i wr=>∃j:Nat,j<=l.length/\i = .int .i64 j/\Hid (∀ (j':Nat) (x:ByteArray),j'<j->l[j']?=some x->xz ns ps l j' x)/\Below w.heap.size w wr) (fun i _=>l.length-(intOf i).toNat)
 case atStart=>exact⟨0,Nat.zero_le _,rfl,Lib.hid (fun j' x h=>absurd h (Nat.not_lt_zero _)),Below.refl _ _⟩
 case round=>
  obtain⟨j,hj,rfl,hE,hBl⟩:=hrel
  have j0:(0:Int)<=j:=Int.natCast_nonneg _
  by_cases hlt:j<l.length
  ·obtain⟨x,hx⟩:∃x,l[j]?=some x:=⟨l[j],by rw[List.getElem?_eq_getElem hlt]⟩
   obtain⟨b,o,rfl,hcx⟩:=hl.out j x hx
   have ex:=cell_below hBl hcx
   have h3:=h2.out.below hBl
   have K:=yv T t ns x wr h3.tab h3.names h3.nbig
   have hrg:=qA ns x
   have j1:(j:Int)<l.length:=by omega
   replace hx:=Lib.hid hx
   clear h3
   obtain⟨wo,rfl⟩:∃wo:World,wo=wr:=⟨_,rfl⟩
   by_cases hr0:regN ns x<0
   ·have hres:Hid (apartR ns ps l=false):=Lib.hid (Yf hx.out fun hg=>by have:=hg.1;omega)
    clear hE hx
    generalize regN ns x=r at *
    go_wp2_with (go_at_call 55;refine K.mono ?_;clear K;rintro e W1 ⟨rfl,rfl⟩)
    go_ret
    exact⟨qg hres.out.symm,hBl⟩
   ·have hlen:=h2.out.len
    have hnx:Num ps (regN ns x):=⟨by omega,by omega⟩
    replace hnx:=Lib.hid hnx
    obtain⟨r,hr⟩:∃r,r=regN ns x:=⟨_,rfl⟩
    rw[←hr] at K hr0 hrg hnx
    replace hr:=Lib.hid hr
    clear hlen
    go_wp2_with (go_at_call 55;refine K.mono ?_;clear K;rintro e W1 ⟨rfl,rfl⟩)
    go_loopw [7] (fun i wr=>∃k:Nat,k<=j/\i = .int .i64 k/\Hid (∀ (k':Nat) (y:ByteArray),k'<k->l[k']?=some y->lapP (plc ps r) (plc ps (regN ns y))=false)/\Below w.heap.size w wr) (fun i _=>j-(intOf i).toNat)
    case atStart=>exact⟨0,Nat.zero_le _,rfl,Lib.hid (fun k' y h=>absurd h (Nat.not_lt_zero _)),hBl⟩
    case round=>
     obtain⟨k,hk,rfl,hF,hBk⟩:=hrel
     have k0:(0:Int)<=k:=Int.natCast_nonneg _
     by_cases hlk:k<j
     ·obtain⟨y,hy⟩:∃y,l[k]?=some y:=⟨l[k],by rw[List.getElem?_eq_getElem (by omega)]⟩
      obtain⟨b',o',hbo,hcy⟩:=hl.out k y hy
      cases hbo
      have ey:=cell_below hBk hcy
      have h4:=h2.out.below hBk
      have hgy:=hE.out k y hlk hy
      have hry:=qA ns y
      have hlen:=h4.len
      have hny:Num ps (regN ns y):=⟨hgy.1,by omega⟩
      have K3:=yv T t ns y wr h4.tab h4.names h4.nbig
      have K4:=jR T t ps r (regN ns y) wr h4.tab h4.places hnx.out hny
      have k1:(k:Int)<l.length:=by omega
      clear h4 hgy hry hlen hny
      cases hlp:lapP (plc ps r) (plc ps (regN ns y)) with
      |true=>
       have hres:Hid (apartR ns ps l=false):=Lib.hid (Yf hx.out fun hg=>by have:=hg.2 k y hlk hy;rw[←hr.out,hlp] at this;cases this)
       rw[hlp] at K4
       clear hE hF hlp hy
       generalize regN ns y=ry at *
       go_wp2_with (first
        |(go_at_call 55;refine K3.mono ?_;clear K3;rintro e W1 ⟨rfl,rfl⟩)
        |(go_at_call 61;refine K4.mono ?_;clear K4;rintro e W2 ⟨rfl,hb2⟩))
       go_ret
       exact⟨qg hres.out.symm,hBk.trans (hb2.mono hBk.size)⟩
      |false=>
       have hF2:Hid (∀ (k':Nat) (y:ByteArray),k'<k+1->l[k']?=some y->lapP (plc ps r) (plc ps (regN ns y))=false):=Lib.hid (fun k' y' hk' hy'=>by
        by_cases h:k'<k
        ·exact hF.out k' y' h hy'
        ·obtain rfl:k'=k:=by omega
         rw[hy] at hy';cases hy';exact hlp)
       rw[hlp] at K4
       clear hF hlp hy
       generalize regN ns y=ry at K3 K4
       go_wp2_with (first
        |(go_at_call 55;refine K3.mono ?_;clear K3;rintro e W1 ⟨rfl,rfl⟩)
        |(go_at_call 61;refine K4.mono ?_;clear K4;rintro e W2 ⟨rfl,hb2⟩))
       exact⟨⟨k+1,by omega,by go_num,hF2,hBk.trans (hb2.mono hBk.size)⟩,by simp[intOf];omega⟩
     ·have hE2:Hid (∀ (j':Nat) (x:ByteArray),j'<j+1->l[j']?=some x->xz ns ps l j' x):=Lib.hid (fun j' x' hj' hx'=>by
       by_cases h:j'<j
       ·exact hE.out j' x' h hx'
       ·obtain rfl:j'=j:=by omega
        have:=hx.out
        rw[this] at hx';cases hx'
        refine⟨by have:=hr.out;omega,fun k' y hk' hy=>?_⟩
        have:=hF.out k' y (by omega) hy
        rw[hr.out] at this;exact this)
      clear hE hF
      go_wp2_with fail
      exact⟨⟨j+1,by omega,by go_num,hE2,hBk⟩,by simp[intOf];omega⟩
  ·have hres:Hid (apartR ns ps l=true):=Lib.hid ((yx ns ps l).2 fun j' x hx=>hE.out j' x (by have:=(List.getElem?_eq_some_iff.1 hx).1;omega) hx)
   clear hE
   go_wp2_with fail
   go_ret
   exact⟨qg hres.out.symm,hBl⟩
def xC(ps:List Plc)(a b:Int):Bool:=(decide (0<=a)&&decide (0<=b)&&decide (a<ps.length)&&decide (b<ps.length))&&lapP (plc ps a) (plc ps b)
theorem JH(T:Nat)(t:TV)(ps:List Plc)(a b:Int)(w:World)(hT:TabAt w T t)(hP:qP w t.cv ps)(ho:a<0∨b<0∨(ps.length:Int)<=a∨(ps.length:Int)<=b) :
 Calls Tryz.prog 61 #[.pointer (some ⟨T,0,none⟩),.int .i64 a,.int .i64 b] w fun e w'=>e = .returned (.bool false)/\Below w.heap.size w w':=by
 have c9:=Cells.cell hT (j:=9) (v:=.slice t.places.a t.places.n t.places.c) rfl
 have hn:=hP.len
 have ea:t.cv.places=t.places:=rfl
 rw[ea] at hn
 rw[←hn] at ho
 generalize t.places.n=pn at *
 generalize t.places.c=pc at *
 generalize t.places.a=pa at *
 clear hT hP hn ea
 by_cases ha:a<0
 ·have d1:decide (0<=a)=false:=by simpa using ha
  clear ho
  go_enter Tryz.func61,Tryz.ntmps61
  go_wp2_with fail
  go_quiet (fail)
  all_goals
   go_wp2_with fail
   go_ret
   exact⟨rfl,below_drewN (Below.refl _ _) _⟩
 ·have d1:decide (0<=a)=true:=by simp;omega
  by_cases hb:b<0
  ·have d2:decide (0<=b)=false:=by simpa using hb
   clear ho
   go_enter Tryz.func61,Tryz.ntmps61
   go_wp2_with fail
   go_quiet (fail)
   all_goals
    go_wp2_with fail
    go_ret
    exact⟨rfl,below_drewN (Below.refl _ _) _⟩
  ·have d2:decide (0<=b)=true:=by simp;omega
   by_cases ha2:(pn:Int)<=a
   ·have d3:decide (a<(pn:Int))=false:=by simpa using ha2
    clear ho
    go_enter Tryz.func61,Tryz.ntmps61
    go_wp2_with fail
    go_quiet (fail)
    all_goals
     go_wp2_with fail
     go_ret
     exact⟨rfl,below_drewN (Below.refl _ _) _⟩
   ·have d3:decide (a<(pn:Int))=true:=by simp;omega
    have d4:decide (b<(pn:Int))=false:=by simp;omega
    clear ho
    go_enter Tryz.func61,Tryz.ntmps61
    go_wp2_with fail
    go_quiet (fail)
    all_goals
     go_wp2_with fail
     go_ret
     exact⟨rfl,below_drewN (Below.refl _ _) _⟩
theorem XX(T:Nat)(t:TV)(ps:List Plc)(a b:Int)(w:World)(hT:TabAt w T t)(hP:qP w t.cv ps) :
 Calls Tryz.prog 61 #[.pointer (some ⟨T,0,none⟩),.int .i64 a,.int .i64 b] w fun e w'=>e = .returned (.bool (xC ps a b))/\Below w.heap.size w w':=by
 by_cases ho:a<0∨b<0∨(ps.length:Int)<=a∨(ps.length:Int)<=b
 ·refine(JH T t ps a b w hT hP ho).mono fun e w' ⟨he,hw⟩=>⟨?_,hw⟩
  rw[he]
  refine qg ?_
  unfold xC
  rcases ho with ho|ho|ho|ho
  ·rw[decide_eq_false (by omega)];simp
  ·rw[decide_eq_false (p:=0<=b) (by omega)];simp
  ·rw[decide_eq_false (p:=a<(ps.length:Int)) (by omega)];simp
  ·rw[decide_eq_false (p:=b<(ps.length:Int)) (by omega)];simp
 ·refine(jR T t ps a b w hT hP ⟨by omega,by omega⟩ ⟨by omega,by omega⟩).mono fun e w' ⟨he,hw⟩=>⟨?_,hw⟩
  rw[he]
  refine qg ?_
  unfold xC
  rw[decide_eq_true (by omega),decide_eq_true (by omega),decide_eq_true (by omega),decide_eq_true (by omega)];rfl
theorem qhk{ps:List Plc}{a b:Int}(ha:Num ps a)(hb:Num ps b∨b = -1):xC ps a b=Zl ps a b:=by
 unfold xC Zl
 have:=ha.1;have:=ha.2
 rcases hb with hb|rfl
 ·have:=hb.1;have:=hb.2
  rw[decide_eq_true (p:=0<=a) (by omega),decide_eq_true (p:=0<=b) (by omega),decide_eq_true (p:=a<(ps.length:Int)) (by omega),decide_eq_true (p:=b<(ps.length:Int)) (by omega)];simp
 ·simp
theorem Cells.at_below{w W:World}{b:Nat}{t:TypeId}{cs:Array Value}(h:Cells w b t cs)(hb:Below w.heap.size w W):Cells W b t cs:=h.below hb h.lt
structure OpOk(ns:List ByteArray)(ps:List Plc)(cs:List ClassD)(o:OpD):Prop where
 good:OpGood ns ps cs o
 one:o.uses.length=1∨o.uses.length=2
 dn:∀r,r∈choiceS ns cs o.d->Num ps r
 un:∀u,u∈o.uses->∀r,r∈choiceS ns cs u->Num ps r
 dl:(choiceS ns cs o.d).length<=1000
 ul:∀u,u∈o.uses->(choiceS ns cs u).length<=1000
theorem OpOk.clob{ns:List ByteArray}{ps:List Plc}{cs:List ClassD}{o:OpD}(h:OpOk ns ps cs o):∀y,y∈o.clob->0<=regN ns y:=fun y hy=>by
 obtain⟨j,hj⟩:=List.getElem?_of_mem hy
 exact(h.good.clob j y hj).1
def fitP(ps:List Plc)(o:OpR)(a b:Int):Bool:=
 !Zl ps a b&&(decide (o.tie<0)||(o.d.contains (if o.tie=0 then a else b)&&clearB ps o (if o.tie=0 then a else b)))
theorem qgo(ps:List Plc)(o:OpR):fitsR ps o=((o.uses.headD []).any (fun a=>(QD o).any (fitP ps o a))&&(decide (0<=o.tie)||o.d.any (clearB ps o))):=by
 unfold fitsR
 by_cases h:0<=o.tie
 ·rw[if_pos h,decide_eq_true h,Bool.true_or,Bool.and_true]
  have e:∀a,fitP ps o a=fun b=>(!Zl ps a b&&(o.d.contains (if o.tie=0 then a else b)&&clearB ps o (if o.tie=0 then a else b))):=fun a=>by
   funext b
   unfold fitP;rw[decide_eq_false (by omega),Bool.false_or]
  simp only[e]
 ·rw[if_neg h,decide_eq_false h,Bool.false_or]
  have e:∀a,fitP ps o a=fun b=>!Zl ps a b:=fun a=>by
   funext b
   unfold fitP;rw[decide_eq_true (by omega),Bool.true_or,Bool.and_true]
  simp only[e]
theorem qgp(T:Nat)(t:TV)(d:MachD)(ns:List ByteArray)(ps:List Plc)(k:Nat)(x:OpD)(w:World)(h:TabOk w T t d ns ps (clsOf ns d.classes))(hx:d.ops[k]?=some x)(ho:OpOk ns ps d.classes x) :
 Calls Tryz.prog 62 #[.pointer (some ⟨T,0,none⟩),.int .i64 k] w fun e w'=>e = .returned (.bool (fitsR ps (opR ns d.classes x)))/\Below w.heap.size w w':=by
 obtain⟨b,o,ha,u,kk,hc0,hc1,hc2,hc3,hc4,hc5,hcu,hck⟩:=h.ops.2.2 k x hx
 have hlt:=(List.getElem?_eq_some_iff.1 hx).1
 have c3:=Cells.cell h.tab (j:=3) (v:=.slice t.m.ops.a t.m.ops.n t.m.ops.c) rfl
 have hn:=h.ops.1
 have hcap:=h.ops.2.1
 have hun:=hcu.1
 have huc:=hcu.2.1
 rw[ha] at c3
 have k0:(0:Int)<=k:=Int.natCast_nonneg _
 have i1:k<t.m.ops.n:=by omega
 have i2:(k:Int)<t.m.ops.n:=by omega
 obtain⟨u0,hu0⟩:∃u0,x.uses[0]?=some u0:=⟨_,List.getElem?_eq_getElem (by have:=ho.one;omega)⟩
 have hmu0:=List.mem_of_getElem? hu0
 obtain⟨ub,uo,hua,hx0,hx1⟩:=hcu.2.2 0 u0 hu0
 have K0:=fun W (hb:Below w.heap.size w W)=>xB T t d ns ps u0 W (h.below hb) (ho.good.u u0 hmu0) (fun r hr=>(ho.un u0 hmu0 r hr).1)
 have Kd:=fun W (hb:Below w.heap.size w W)=>xB T t d ns ps x.d W (h.below hb) ho.good.d (fun r hr=>(ho.dn r hr).1)
 have Km:=fun W r (hb:Below w.heap.size w W) (hr:Num ps r)=>qgm T t d ns ps k x r W (h.below hb) hx hr ho.clob ho.good.d (fun r hr=>(ho.dn r hr).1) (by have:=ho.dl;omega)
 have Kc:=fun W r (hb:Below w.heap.size w W) (hr:Num ps r)=>qaE T t d ns ps _ k x r W (h.below hb) hx hr ho.clob
 have Kl:=fun W a b (hb:Below w.heap.size w W)=>XX T t ps a b W (h.below hb).tab (h.below hb).places
 obtain⟨A,hA⟩:∃A,A=choiceS ns d.classes u0:=⟨_,rfl⟩
 have hAn:∀r,r∈A->Num ps r:=by rw[hA];exact ho.un u0 hmu0
 have hAl:A.length<=1000:=by rw[hA];exact ho.ul u0 hmu0
 have hDn:=ho.dn
 have hDl:=ho.dl
 have hhd:(opR ns d.classes x).uses.headD []=A:=by
  unfold opR
  dsimp only
  cases hux:x.uses with
  | nil=>rw[hux] at hu0;cases hu0
  | cons a r=>rw[hux] at hu0;cases hu0;rw[hA];rfl
 have hdR:(opR ns d.classes x).d=choiceS ns d.classes x.d:=rfl
 have htR:(opR ns d.classes x).tie=x.tie:=rfl
 have hcR:∀r,clearB ps (opR ns d.classes x) r=clearL ps (regsL ns x.clob) r:=fun r=>rfl
 obtain⟨BL,hBL⟩:∃BL,BL=QD (opR ns d.classes x):=⟨_,rfl⟩
 have hfr:=qgo ps (opR ns d.classes x)
 rw[hhd,←hBL,hdR,htR] at hfr
 have htie:x.tie<x.uses.length /\ -1<=x.tie:=by
  have:=ho.good.tie
  unfold tieR at this
  simp only[Bool.not_eq_true',Bool.or_eq_false_iff,decide_eq_false_iff_not] at this
  omega
 have hBLn:∀r,r∈BL->Num ps r∨r = -1:=by
  rw[hBL]
  unfold QD opR
  dsimp only
  intro r hr
  match hux:x.uses with
  | []=>rw[hux] at hu0;cases hu0
  |[a]=>
   rw[hux] at hr
   simp at hr
   exact .inr hr
  |a::c::l=>
   rw[hux] at hr
   exact .inl (ho.un c (by rw[hux];simp) r hr)
 have hBLtie:0<=x.tie->x.tie≠0->∀r,r∈BL->Num ps r:=by
  intro h0 h1
  rw[hBL]
  unfold QD opR
  dsimp only
  intro r hr
  match hux:x.uses with
  | []=>rw[hux] at hu0;cases hu0
  | [a]=>have:=htie.1;rw[hux] at this;simp at this;omega
  |a::c::l=>
   rw[hux] at hr
   exact ho.un c (by rw[hux];simp) r hr
 have hone:=ho.one
 have hone2:Hid (u.n<=2):=Lib.hid (by omega)
 have hK1:x.uses.length=2->∃u1,x.uses[1]?=some u1/\BL=choiceS ns d.classes u1:=fun h2=>by
  obtain⟨a1,a2,hac⟩:∃a1 a2,x.uses = [a1,a2]:=by
   match x.uses,h2 with
   | [a1,a2],_=>exact⟨a1,a2,rfl⟩
  refine⟨a2,by rw[hac];rfl,?_⟩
  rw[hBL]
  unfold QD opR
  dsimp only
  rw[hac];rfl
 have hB1:x.uses.length=1->BL = [-1]:=fun h1=>by
  obtain⟨a1,hac⟩:=List.length_eq_one_iff.1 h1
  rw[hBL]
  unfold QD opR
  dsimp only
  rw[hac];rfl
 have Kb:∀W u1,x.uses[1]?=some u1->Below w.heap.size w W->Calls Tryz.prog 52 #[.pointer (some ⟨T,0,none⟩),.agg #[.string u1.cls,.string u1.fix]] W (qcQ W (choiceS ns d.classes u1)):=fun W u1 h1 hb=>
  xB T t d ns ps u1 W (h.below hb) (ho.good.u u1 (List.mem_of_getElem? h1)) (fun r hr=>(ho.un u1 (List.mem_of_getElem? h1) r hr).1)
 have hcu1:∀u1,x.uses[1]?=some u1->w.cell? ⟨ub,uo+2,none⟩=some (.string u1.cls)/\w.cell? ⟨ub,uo+2+1,none⟩=some (.string u1.fix):=fun u1 h1=>by
  obtain⟨b',o',hb',q0,q1⟩:=hcu.2.2 1 u1 h1
  rw[hua] at hb';cases hb'
  exact⟨by simpa using q0,by simpa using q1⟩
 have hmayP:∀a c,fitP ps (opR ns d.classes x) a c=(!Zl ps a c&&(decide (x.tie<0)||((choiceS ns d.classes x.d).contains (if x.tie=0 then a else c)&&clearL ps (regsL ns x.clob) (if x.tie=0 then a else c)))):=fun a c=>by
  unfold fitP;rw[hdR,htR,hcR]
 have hcR2:(choiceS ns d.classes x.d).any (clearB ps (opR ns d.classes x))=(choiceS ns d.classes x.d).any (clearL ps (regsL ns x.clob)):=by
  congr 1
 rw[hcR2] at hfr
 rw[←hA] at K0
 have hBLl:BL.length<=1000:=by
  rcases hone with h1|h2
  ·rw[hB1 h1];simp
  ·obtain⟨u1,h3,h4⟩:=hK1 h2
   rw[h4];exact ho.ul u1 (List.mem_of_getElem? h3)
 simp only[Nat.zero_mul,Nat.add_zero] at hx0 hx1
 generalize t.m.ops.n=pn at *
 generalize t.m.ops.c=pc at *
 clear hx hlt ha hn ho hdR htR hcR hcR2 hhd hBL hA hmu0 h
 generalize fitP ps (opR ns d.classes x)=FP at *
 generalize fitsR ps (opR ns d.classes x)=res at *
 replace hfr:=Lib.hid hfr
 replace hmayP:=Lib.hid hmayP
 replace hDn:=Lib.hid hDn
 replace hAn:=Lib.hid hAn
 replace hBLn:=Lib.hid hBLn
 replace hBLtie:=Lib.hid hBLtie
 replace hK1:=Lib.hid hK1
 replace hB1:=Lib.hid hB1
 replace hcu1:=Lib.hid hcu1
 replace hcu:=Lib.hid hcu
 replace hck:=Lib.hid hck
 replace hu0:=Lib.hid hu0
 obtain⟨xn,⟨xc,xf⟩,xu,xt,xk⟩:=x
 obtain⟨ua,un,uc⟩:=u
 obtain⟨uc0,uf0⟩:=u0
 dsimp only at *
 generalize choiceS ns d.classes ⟨xc,xf⟩=D at *
 have hbox:Below w.heap.size w (w.alloc (.cells #[.string xn,.string xc,.string xf,.slice ua un uc,.int .i64 xt,.slice kk.a kk.n kk.c] 54)):=qe
 have hcb:=Cells.new w 54 #[.string xn,.string xc,.string xf,.slice ua un uc,.int .i64 xt,.slice kk.a kk.n kk.c]
 have e0:=cell_below hbox hx0
 have e1:=cell_below hbox hx1
 have un1:(0:Int)<un:=by omega
 have un1':0<un:=by omega
 replace hun:=Lib.hid hun
 subst hua
 go_enter Tryz.func62,Tryz.ntmps62
 go_upto_if 46 with(go_at_call 52;go_loud (refine(K0 _ hbox).mono ?_;rintro e W1 ⟨⟨sa,sn,sc⟩,rfl,hIA,hb1⟩;have hcb1:=hcb.at_below hb1;have q3:=hcb1.cell (j:=3) (v:=.slice (some ⟨ub,uo,none⟩) un uc) rfl;have qa3:=fun o=>qf o q3;replace hIA:=Lib.hid hIA))
 go_cut [7] from 47 to 52 (fun bv Wx=>∃s:SlV,bv = .slice s.a s.n s.c/\IntsAt Wx s BL/\IntsR Wx ⟨sa,sn,sc⟩ A/\Below w.heap.size w Wx/\Cells Wx w.heap.size 54 #[.string xn,.string xc,.string xf,.slice (some ⟨ub,uo,none⟩) un uc,.int .i64 xt,.slice kk.a kk.n kk.c])
 case first=>
  have hal:Below W1.heap.size W1 (W1.alloc (.cells #[.int .i64 (-1)] 3)):=qe
  have hw1:Below w.heap.size w W1:=hbox.trans (hb1.mono (by simp))
  have hw2:=hw1.trans (hal.mono hw1.size)
  rcases hone with h1|h2
  ·have hne:Hid (IntsAt (W1.alloc (.cells #[.int .i64 (-1)] 3)) ⟨some ⟨W1.heap.size,0,none⟩,1,1⟩ BL):=Lib.hid (by
    rw[hB1.out h1]
    refine⟨rfl,Nat.le_refl _,fun j y hj=>⟨_,_,rfl,?_⟩⟩
    cases j with
    | zero=>cases hj;exact qC W1 #[.int .i64 (-1)] 3 (j:=0) rfl
    | succ j=>simp at hj)
   have hun1:un=1:=by have:=hun.out;omega
   subst hun1
   clear hun h1
   go_wp2_with fail
   go_meet
   exact⟨⟨some ⟨W1.heap.size,0,none⟩,1,1⟩,rfl,hne.out,hIA.out.below hal,hw2,hcb1.at_below hal⟩
  ·obtain⟨⟨vc,vf⟩,hu1,hBLe⟩:=hK1.out h2
   obtain⟨y0,y1⟩:=hcu1.out _ hu1
   dsimp only at y0 y1
   have z0:=cell_below hw2 y0
   have z1:=cell_below hw2 y1
   have Kb2:=Kb _ _ hu1 hw2
   dsimp only at Kb2
   rw[←hBLe] at Kb2
   have hun2:un=2:=by have:=hun.out;omega
   subst hun2
   clear hun h2 hu1 hBLe
   go_wp2_with (go_at_call 52;go_loud (refine Kb2.mono ?_;clear Kb2;rintro e W2 ⟨s2,rfl,hI2,hb2⟩;have hI3:=Lib.hid hI2.at_;clear hI2))
   go_meet
   exact⟨s2,rfl,hI3.out,(hIA.out.below hal).below hb2,hw2.trans (hb2.mono hw2.size),(hcb1.at_below hal).at_below hb2⟩
 case rest=>
  obtain⟨⟨ba,bn,bc⟩,rfl,hIB,hIA2,hBc,hbx⟩:=hcut
  have hbn:=hIB.1
  have han:=hIA2.len
  dsimp only at hbn han
  subst hbn han
  have h4:=hbx.cell (j:=4) (v:=.int .i64 xt) rfl
  have h1c:=hbx.cell (j:=1) (v:=.string xc) rfl
  have h2c:=hbx.cell (j:=2) (v:=.string xf) rfl
  replace hIB:=Lib.hid hIB
  replace hIA2:=Lib.hid hIA2
  replace hbx:=Lib.hid hbx
  clear hIA q3 qa3 hcb1 hcb e0 e1 hx0 hx1 hb1 hbox hc0 hc1 hc2 hc3 hc4 hc5 c3 Kb K0 hK1 hB1 hcu1 hone hu0
  go_wp2_with fail
  go_loopw [8,9] (fun i _ wr=>∃j:Nat,j<=A.length/\i = .int .i64 j/\Hid (((A.take j).any fun a=>BL.any (FP a))=false)/\Below wc.heap.size wc wr) (fun i _ _=>A.length-(intOf i).toNat)
  case atStart=>exact⟨0,Nat.zero_le _,rfl,Lib.hid rfl,Below.refl _ _⟩
  case round=>
   obtain⟨j,hj,rfl,hE,hBl⟩:=hrel
   have j0:(0:Int)<=j:=Int.natCast_nonneg _
   by_cases hlt:j<A.length
   ·obtain⟨y,hy⟩:∃y,A[j]?=some y:=⟨A[j],by rw[List.getElem?_eq_getElem hlt]⟩
    obtain⟨ga,oa,hsa,hcy⟩:=hIA2.out.at_.2.2 j y hy
    dsimp only at hsa
    have hny:=hAn.out y (List.mem_of_getElem? hy)
    replace hy:=Lib.hid hy
    have j1:(j:Int)<A.length:=by omega
    obtain⟨wo,rfl⟩:∃wo:World,wo=wr:=⟨_,rfl⟩
    subst hsa
    go_wp2_with fail
    go_loopw [9] (fun i wr=>∃k':Nat,k'<=BL.length/\i = .int .i64 k'/\Hid (((BL.take k').any (FP y))=false)/\Below wc.heap.size wc wr) (fun i _=>BL.length-(intOf i).toNat)
    case atStart=>exact⟨0,Nat.zero_le _,rfl,Lib.hid rfl,hBl⟩
    case round=>
     obtain⟨i,hi,rfl,hF,hBk⟩:=hrel
     have i0:(0:Int)<=i:=Int.natCast_nonneg _
     by_cases hlk:i<BL.length
     ·obtain⟨z,hz⟩:∃z,BL[i]?=some z:=⟨BL[i],by rw[List.getElem?_eq_getElem hlk]⟩
      obtain⟨gb,ob,hsb,hcz⟩:=hIB.out.2.2 i z hz
      dsimp only at hsb
      have hnz:=hBLn.out z (List.mem_of_getElem? hz)
      have hnt:=fun h0 h1=>hBLtie.out h0 h1 z (List.mem_of_getElem? hz)
      have ii1:(i:Int)<BL.length:=by omega
      subst hsb
      have ey:=cell_below hBk hcy
      have ez:=cell_below hBk hcz
      have e4:=cell_below hBk h4
      have hwr:Below w.heap.size w wr:=hBc.trans (hBk.mono hBc.size)
      have hlX:=qhk hny hnz
      have hmP:=hmayP.out y z
      have KL:=fun W (hb:Below wr.heap.size wr W)=>Kl W y z (hwr.trans (hb.mono hwr.size))
      rw[hlX] at KL
      have hbx2:=Lib.hid (hbx.out.at_below hBk)
      cases hlx:Zl ps y z with
      |true=>
       have hF2:=Lib.hid (zh (p:=FP y) hF.out hz (by rw[hmP,hlx];rfl))
       rw[hlx] at KL
       clear hlx hmP hlX hF hz hnz hnt
       go_wp2_with fail
       go_region_held3 (fun w'=>w'.cell? ⟨ga,oa+j,none⟩=some (.int .i64 y)/\w'.cell? ⟨gb,ob+i,none⟩=some (.int .i64 z))
        (go_keep)
        ((go_at_call 61;refine(KL _ (Below.refl _ _).drew).mono ?_;clear KL;rintro e W2 ⟨rfl,hb2⟩;have q0:=cell_below hb2 ey;have q1:=cell_below hb2 ez))
       go_wp2_with fail
       exact⟨⟨i+1,by omega,by go_num,hF2,hBk.trans (((Below.refl _ _).drew.trans hb2).mono hBk.size)⟩,by simp[intOf];omega⟩
      |false=>
       rw[hlx] at KL hmP
       clear hlx hlX
       have hP2:∀W2,Below wr.heap.size wr.drew W2->Below wr.heap.size wr W2:=fun W2 hb=>(Below.refl _ _).drew.trans hb
       by_cases htie0:0<=xt
       ·have hxt:xt=0∨xt=1:=by
         have h1:=htie.1
         have h2:=hun.out
         have h3:=hone2.out
         omega
        rcases hxt with rfl|rfl
        ·have hrn:Num ps y:=hny
         have KM:=fun W (hb:Below wr.heap.size wr W)=>Km W y (hwr.trans (hb.mono hwr.size)) hrn
         have hmP2:FP y z=(D.contains y&&clearL ps (regsL ns xk) y):=by rw[hmP];rfl
         clear hmP
         replace hmP2:=Lib.hid hmP2
         generalize(D.contains y&&clearL ps (regsL ns xk) y)=q at KM hmP2
         cases q with
         |true=>
          have hres:Hid (res=true):=Lib.hid (by
           rw[hfr.out,xG hy.out (xG (p:=FP y) hz hmP2.out)];rfl)
          clear hF hz hnz hnt hmP2 hrn
          go_wp2_with fail
          go_region_held3 (fun w'=>w'.cell? ⟨ga,oa+j,none⟩=some (.int .i64 y)/\w'.cell? ⟨gb,ob+i,none⟩=some (.int .i64 z))
           (go_keep)
           ((go_at_call 61;refine(KL _ (Below.refl _ _).drew).mono ?_;clear KL;rintro e W2 ⟨rfl,hb2⟩;have q0:=cell_below hb2 ey;have q1:=cell_below hb2 ez))
          have hbw:=hP2 _ hb2
          have m4:=cell_below hbw e4
          go_wp2_with fail
          have m4a:=fun o=>qf o m4
          have hbm:=(hbw.alloc hbw.size (.cells #[.int .i64 y,.int .i64 z] 3)).drew
          go_region
          go_wp2_with (go_at_call 21;go_loud (refine(KM _ hbm).mono ?_;clear KM;rintro e W4 ⟨rfl,hb4⟩))
          go_ret
          exact⟨qg hres.out.symm,hwr.trans ((hbm.trans (hb4.mono hbm.size)).mono hwr.size)⟩
         |false=>
          have hF2:=Lib.hid (zh (p:=FP y) hF.out hz hmP2.out)
          clear hF hz hnz hnt hmP2 hrn
          go_wp2_with fail
          go_region_held3 (fun w'=>w'.cell? ⟨ga,oa+j,none⟩=some (.int .i64 y)/\w'.cell? ⟨gb,ob+i,none⟩=some (.int .i64 z))
           (go_keep)
           ((go_at_call 61;refine(KL _ (Below.refl _ _).drew).mono ?_;clear KL;rintro e W2 ⟨rfl,hb2⟩;have q0:=cell_below hb2 ey;have q1:=cell_below hb2 ez))
          have hbw:=hP2 _ hb2
          have m4:=cell_below hbw e4
          go_wp2_with fail
          have m4a:=fun o=>qf o m4
          have hbm:=(hbw.alloc hbw.size (.cells #[.int .i64 y,.int .i64 z] 3)).drew
          go_region
          go_wp2_with (go_at_call 21;go_loud (refine(KM _ hbm).mono ?_;clear KM;rintro e W4 ⟨rfl,hb4⟩))
          exact⟨⟨i+1,by omega,by go_num,hF2,hBk.trans ((hbm.trans (hb4.mono hbm.size)).mono hBk.size)⟩,by simp[intOf];omega⟩
        ·have hrn:Num ps z:=hnt (by decide) (by decide)
         have KM:=fun W (hb:Below wr.heap.size wr W)=>Km W z (hwr.trans (hb.mono hwr.size)) hrn
         have hmP2:FP y z=(D.contains z&&clearL ps (regsL ns xk) z):=by rw[hmP];rfl
         clear hmP
         replace hmP2:=Lib.hid hmP2
         generalize(D.contains z&&clearL ps (regsL ns xk) z)=q at KM hmP2
         cases q with
         |true=>
          have hres:Hid (res=true):=Lib.hid (by
           rw[hfr.out,xG hy.out (xG (p:=FP y) hz hmP2.out)];rfl)
          clear hF hz hnz hnt hmP2 hrn
          go_wp2_with fail
          go_region_held3 (fun w'=>w'.cell? ⟨ga,oa+j,none⟩=some (.int .i64 y)/\w'.cell? ⟨gb,ob+i,none⟩=some (.int .i64 z))
           (go_keep)
           ((go_at_call 61;refine(KL _ (Below.refl _ _).drew).mono ?_;clear KL;rintro e W2 ⟨rfl,hb2⟩;have q0:=cell_below hb2 ey;have q1:=cell_below hb2 ez))
          have hbw:=hP2 _ hb2
          have m4:=cell_below hbw e4
          go_wp2_with fail
          have m4a:=fun o=>qf o m4
          have hbm:=(hbw.alloc hbw.size (.cells #[.int .i64 y,.int .i64 z] 3)).drew
          go_region
          go_wp2_with (go_at_call 21;go_loud (refine(KM _ hbm).mono ?_;clear KM;rintro e W4 ⟨rfl,hb4⟩))
          go_ret
          exact⟨qg hres.out.symm,hwr.trans ((hbm.trans (hb4.mono hbm.size)).mono hwr.size)⟩
         |false=>
          have hF2:=Lib.hid (zh (p:=FP y) hF.out hz hmP2.out)
          clear hF hz hnz hnt hmP2 hrn
          go_wp2_with fail
          go_region_held3 (fun w'=>w'.cell? ⟨ga,oa+j,none⟩=some (.int .i64 y)/\w'.cell? ⟨gb,ob+i,none⟩=some (.int .i64 z))
           (go_keep)
           ((go_at_call 61;refine(KL _ (Below.refl _ _).drew).mono ?_;clear KL;rintro e W2 ⟨rfl,hb2⟩;have q0:=cell_below hb2 ey;have q1:=cell_below hb2 ez))
          have hbw:=hP2 _ hb2
          have m4:=cell_below hbw e4
          go_wp2_with fail
          have m4a:=fun o=>qf o m4
          have hbm:=(hbw.alloc hbw.size (.cells #[.int .i64 y,.int .i64 z] 3)).drew
          go_region
          go_wp2_with (go_at_call 21;go_loud (refine(KM _ hbm).mono ?_;clear KM;rintro e W4 ⟨rfl,hb4⟩))
          exact⟨⟨i+1,by omega,by go_num,hF2,hBk.trans ((hbm.trans (hb4.mono hbm.size)).mono hBk.size)⟩,by simp[intOf];omega⟩
       ·have hfp:FP y z=true:=by rw[hmP,decide_eq_true (show xt<0 by omega)];rfl
        have hres0:Hid (res=D.any (clearL ps (regsL ns xk))):=Lib.hid (by
         rw[hfr.out,xG hy.out (xG (p:=FP y) hz hfp),decide_eq_false htie0];rfl)
        have hcl:=fun W (hb:Below wr.heap.size wr W)=>Kd W (hwr.trans (hb.mono hwr.size))
        have hB1c:=hbx2.out.cell (j:=1) (v:=.string xc) rfl
        have hB2c:=hbx2.out.cell (j:=2) (v:=.string xf) rfl
        clear hF hz hnz hnt hmP hfp
        go_wp2_with fail
        go_region_held3 (fun w'=>w'.cell? ⟨ga,oa+j,none⟩=some (.int .i64 y)/\w'.cell? ⟨gb,ob+i,none⟩=some (.int .i64 z))
         (go_keep)
         ((go_at_call 61;refine(KL _ (Below.refl _ _).drew).mono ?_;clear KL;rintro e W2 ⟨rfl,hb2⟩;have q0:=cell_below hb2 ey;have q1:=cell_below hb2 ez))
        have hbw:=hP2 _ hb2
        have m4:=cell_below hbw e4
        have m1:=cell_below hbw hB1c
        have m2:=cell_below hbw hB2c
        go_wp2_with (go_at_call 52;go_loud (refine(hcl _ hbw).mono ?_;clear hcl;rintro e W3 ⟨⟨dA,dN,dC⟩,rfl,hID,hb3⟩))
        have hdn:=hID.len
        dsimp only at hdn
        subst hdn
        replace hID:=Lib.hid hID
        have hw3:Below w.heap.size w W3:=hwr.trans ((hbw.trans (hb3.mono hbw.size)).mono hwr.size)
        clear e4 ey ez m4 m1 m2 q0 q1 hB1c hB2c
        go_loopw [14] (fun i W=>∃q:Nat,q<=D.length/\i = .int .i64 q/\Hid ((D.take q).any (clearL ps (regsL ns xk))=false)/\Below W3.heap.size W3 W) (fun i _=>D.length-(intOf i).toNat)
        case atStart=>exact⟨0,Nat.zero_le _,rfl,Lib.hid rfl,Below.refl _ _⟩
        case round=>
         obtain⟨q,hq,rfl,hG,hBq⟩:=hrel
         have q0:(0:Int)<=q:=Int.natCast_nonneg _
         by_cases hlq:q<D.length
         ·obtain⟨r,hr⟩:∃r,D[q]?=some r:=⟨D[q],by rw[List.getElem?_eq_getElem hlq]⟩
          obtain⟨gd,od,hsd,hcr⟩:=hID.out.at_.2.2 q r hr
          dsimp only at hsd
          have hnr:=hDn.out r (List.mem_of_getElem? hr)
          have er:=cell_below hBq hcr
          have q1:(q:Int)<D.length:=by omega
          have hwq:Below w.heap.size w wr:=hw3.trans (hBq.mono hw3.size)
          have KC:=Kc wr r hwq hnr
          subst hsd
          cases hcc:clearL ps (regsL ns xk) r with
          |true=>
           have hres:Hid (res=true):=Lib.hid (by rw[hres0.out,xG hr hcc])
           rw[hcc] at KC
           clear hcc hr hG
           go_wp2_with (go_at_call 53;refine KC.mono ?_;clear KC;rintro e W5 ⟨rfl,hb5⟩)
           go_ret
           exact⟨qg (by rw[hres.out]),hwq.trans (hb5.mono hwq.size)⟩
          |false=>
           have hG2:=Lib.hid (zh (p:=clearL ps (regsL ns xk)) hG.out hr hcc)
           rw[hcc] at KC
           clear hcc hr hG
           go_wp2_with (go_at_call 53;refine KC.mono ?_;clear KC;rintro e W5 ⟨rfl,hb5⟩)
           exact⟨⟨q+1,by omega,by go_num,hG2,hBq.trans (hb5.mono hBq.size)⟩,by simp[intOf];omega⟩
         ·have hres:Hid (res=false):=Lib.hid (by rw[hres0.out,Qm hG.out (by omega)])
          clear hG
          go_wp2_with fail
          go_ret
          exact⟨qg (by rw[hres.out]),hw3.trans (hBq.mono hw3.size)⟩
     ·have hE2:=Lib.hid (zh (p:=fun a=>BL.any (FP a)) hE.out hy.out (Qm hF.out (by omega)))
      clear hF
      go_wp2_with fail
      exact⟨⟨j+1,by omega,by go_num,hE2,hBk⟩,by simp[intOf];omega⟩
   ·have hres:Hid (res=false):=Lib.hid (by rw[hfr.out,Qm hE.out (by omega),Bool.false_and])
    clear hE
    go_wp2_with fail
    go_ret
    exact⟨qg (by rw[hres.out]),hBc.trans (hBl.mono hBc.size)⟩
end Go.Proofs.YtkoloennfejaaaaGreatDoor
