
import Derived.Test.YtomlgdnafeeeiaaGreatDoorShelf
import Derived.WalkKit
import Derived.WalkSpells
import Derived.WalkLawsBesides
import Derived.Lib.Hide
import Derived.LoopTactic
import Derived.Below
import Derived.RangeFuncNested
import Derived.RangeFuncBound
import Derived.RangeFuncCalls
import Derived.RangeFuncLeaves
import Derived.WalkSmall
import Derived.Shelf.Abstract
import Derived.Shelf.RegionOpen
import Derived.OwnWalkIn
import Derived.TacticsInMore
import Derived.LoopNIn
import Derived.LoopIn
import Derived.Maps.AppendAt
import Derived.Deep.DeepMust
import Derived.WalkMore
import Derived.IntWalk
import Derived.Deep.RegionHeld3
import Derived.Deep.AppendLies
import Derived.StillTactics
import Derived.OwnWalk
import Derived.Laws.Pointers
import Derived.Maps.OwnIn
set_option maxHeartbeats 4000000
set_option maxRecDepth 100000
/-
 Bytes of names: which bytes are letters,digits,bytes in names,blanks: the contracts of the lexer's small functions. And what follows: see the heads within.
-/
namespace Go.Proofs.YtomlgdnafeeeiaaGreatDoor
open Proofs.Tryz
section
open Go.RowKit
set_option linter.defProp false
abbrev BX(w w2:World):Prop:=Below w.heap.size w w2
def vE:=@List.getElem?_eq_getElem
def vS:=@List.getElem?_eq_some_iff
def vN:=@Int.natCast_nonneg
def vM:=@List.mem_of_getElem?
def vI:=@IntWalk.i64_in
def vL:=@Nat.le_refl
def kB:=@Below.refl
def vG:=@List.getD_eq_getElem?_getD
def kA:=@List.length_append
def vF:=@decide_eq_false
def vT:=@decide_eq_true
def vZ:=@World.size_alloc
def vR:=@Nat.le_trans
def vO:=@Nat.zero_le
def vH:=@Lib.hid
def vP:=@List.length_map
def vQ:=@List.mem_map_of_mem
def vU:=@List.any_eq_true
def vV:=@List.all_eq_true
def vW:=@Nat.lt_of_lt_of_le
def vX:=@List.take_add_one
def vY:=@List.getElem?_map
def vC:=@List.mem_append
def vD:=@Bool.eq_false_iff
def vJ:=@List.length_eq_zero_iff
def vK:=@List.setIfInBounds_toArray
def kZ:=@List.set_cons_zero
def kS:=@List.set_cons_succ
def kM:=@List.map_append
def kW:=@World.block_lt_of_cell?
def kR:=@List.getElem?_append_right
def kO:=@World.ownsRow_nil
def kP:=@World.putObj_heap_other
def xe(c:Int):Bool:=(decide (97<=c)&&decide (c<=122))||(decide (65<=c)&&decide (c<=90))||decide (c=95)
def xK(c:Int):Bool:=decide (48<=c)&&decide (c<=57)
def qU(c:Int):Bool:=xe c||xK c
theorem qq{a b:Bool}(h:a=b):Ending.returned (.bool a) = .returned (.bool b):=by rw[h]
theorem yv(c:Int)(w:World):Calls prog 219 #[.int .u8 c] w fun e w'=>e = .returned (.bool (xe c))/\w=w':=by
 go_enter func219,ntmps219
 go_wp2
 all_goals
  go_ret
  exact⟨qq (by unfold xe;rw[Bool.eq_iff_iff];simp;omega),rfl⟩
theorem QK(c:Int)(w:World):Calls prog 221 #[.int .u8 c] w fun e w'=>e = .returned (.bool (xK c))/\w=w':=by
 go_enter func221,ntmps221
 go_wp2
 all_goals
  go_ret
  exact⟨qq (by unfold xK;rw[Bool.eq_iff_iff];simp;omega),rfl⟩
theorem JE(c:Int)(w:World):Calls prog 230 #[.int .u8 c] w fun e w'=>e = .returned (.bool (qU c))/\w=w':=by
 by_cases h:xe c=true
 all_goals
  go_enter func230,ntmps230
  go_wp2_with (first|(go_at_call 219;refine(yv _ _).mono ?_;rintro e w' ⟨rfl,rfl⟩)|(go_at_call 221;refine(QK _ _).mono ?_;rintro e w' ⟨rfl,rfl⟩))
  go_ret
  exact⟨qq (by unfold qU;simp[h]),rfl⟩
end
section
open Go.RowKit
def Qv(c:Int):Bool:=decide (c=32)||decide (c=9)||decide (c=13)
def zb(p:Int->Bool)(s:ByteArray)(k:Nat):Nat:=k+((s.data.toList.drop k).takeWhile (fun c=>p c.toNat)).length
theorem Zw(s:ByteArray)(k:Nat)(h:k<s.size):s.data.toList.drop k=s[k]::s.data.toList.drop (k+1):=by
 rw[List.drop_eq_getElem_cons (by simpa using h)];rfl
theorem Qf{p:Int->Bool}{s:ByteArray}{k:Nat}(h:k<s.size)(hp:p s[k].toNat=true):zb p s (k+1)=zb p s k:=by
 unfold zb;rw[Zw s k h];simp[hp];omega
theorem Qg{p:Int->Bool}{s:ByteArray}{k:Nat}(h:k<s.size)(hp:p s[k].toNat=false):zb p s k=k:=by
 unfold zb;rw[Zw s k h];simp[hp]
theorem QL{p:Int->Bool}{s:ByteArray}{k:Nat}(h:s.size<=k):zb p s k=k:=by
 unfold zb;rw[List.drop_eq_nil_of_le (by simpa using h)];simp
theorem Jp(p:Int->Bool)(s:ByteArray)(k:Nat):k<=zb p s k:=Nat.le_add_right _ _
theorem yF(p:Int->Bool)(s:ByteArray)(k:Nat)(h:k<=s.size):zb p s k<=s.size:=by
 unfold zb
 have:=(List.takeWhile_sublist (l:=s.data.toList.drop k) (fun c=>p c.toNat)).length_le
 simp at this;omega
theorem qI{k:IntKind}{a b:Int}(h:a=b):Ending.returned (.int k a) = .returned (.int k b):=by rw[h]
theorem qdh(c:UInt8):(0<=Lib.indexByte [32,9,13] c)↔Qv c.toNat=true:=by
 unfold Qv
 have h:c=32∨c=9∨c=13∨(c≠32/\c≠9/\c≠13):=by
  by_cases h1:c=32
  ·exact .inl h1
  ·by_cases h2:c=9
   ·exact .inr (.inl h2)
   ·by_cases h3:c=13
    ·exact .inr (.inr (.inl h3))
    ·exact .inr (.inr (.inr ⟨h1,h2,h3⟩))
 rcases h with rfl|rfl|rfl|⟨h1,h2,h3⟩
 ·decide
 ·decide
 ·decide
 ·have e1:(32==c)=false:=by simpa using fun h=>h1 h.symm
  have e2:(9==c)=false:=by simpa using fun h=>h2 h.symm
  have e3:(13==c)=false:=by simpa using fun h=>h3 h.symm
  have n1:¬ c.toNat=32:=fun h=>h1 (UInt8.toNat_inj.1 h)
  have n2:¬ c.toNat=9:=fun h=>h2 (UInt8.toNat_inj.1 h)
  have n3:¬ c.toNat=13:=fun h=>h3 (UInt8.toNat_inj.1 h)
  have f1:¬ (c.toNat:Int)=32:=by omega
  have f2:¬ (c.toNat:Int)=9:=by omega
  have f3:¬ (c.toNat:Int)=13:=by omega
  simp[Lib.indexByte,e1,e2,e3,f1,f2,f3]
theorem YI(c:UInt8)(w:World):Calls prog 212 #[.int .u8 c.toNat] w fun e w'=>e = .returned (.bool (Qv c.toNat))/\w=w':=by
 have hi:=qdh c
 have hc:(c.toNat:Int).toNat.toUInt8=c:=by simp
 have H:=vH hi
 have C:=strings_IndexByte ⟨#[32,9,13]⟩ c.toNat w
 rw[hc] at C
 clear hi hc
 go_enter func212,ntmps212
 go_wp2_with (go_at_call 218;refine C.mono ?_;rintro e w' ⟨rfl,rfl⟩)
 go_ret
 exact⟨qq (by rw[Bool.eq_iff_iff];simpa using H.out),rfl⟩
theorem Zx(s:ByteArray)(k:Nat)(w:World)(hs:s.size<=65536)(hk:k<=s.size):Calls prog 211 #[.string s,.int .i64 k,.func (.func 212) #[] #[]] w fun e w'=>e = .returned (.int .i64 (zb Qv s k))/\w=w':=by
 go_enter func211,ntmps211
 go_wp2
 go_loop [1] (fun i=>∃j:Nat,k<=j/\j<=s.size/\i = .int .i64 j/\Hid (zb Qv s j=zb Qv s k)) (fun i=>s.size-(intOf i).toNat)
 case atStart=>exact⟨k,vL _,hk,rfl,vH rfl⟩
 case round=>
  obtain⟨j,hj,hj2,rfl,hE⟩:=hrel
  by_cases hlt:j<s.size
  ·by_cases hp:Qv s[j].toNat=true
   ·have hE2:=vH ((Qf hlt hp).trans hE.out)
    clear hE
    go_wp2_with (go_at_call 212;refine(YI _ _).mono ?_;rintro e w' ⟨rfl,rfl⟩)
    go_round
    case rel=>exact⟨j+1,by omega,by omega,by go_num,hE2⟩
    case measure=>simp[intOf];omega
   ·have hp':Qv s[j].toNat=false:=by simpa using hp
    have hE2:=vH (hE.out.symm.trans (Qg hlt hp'))
    clear hE hp
    go_wp2_with (go_at_call 212;refine(YI _ _).mono ?_;rintro e w' ⟨rfl,rfl⟩)
    go_ret
    exact⟨qI (by rw[hE2.out]),rfl⟩
  ·have hE2:=vH (hE.out.symm.trans (QL (by omega)))
   clear hE
   go_wp2_with fail
   go_ret
   exact⟨qI (by rw[hE2.out]),rfl⟩
theorem XZ(s:ByteArray)(k:Nat)(w:World)(hs:s.size<=65536)(hk:k<=s.size):Calls prog 211 #[.string s,.int .i64 k,.func (.func 230) #[] #[]] w fun e w'=>e = .returned (.int .i64 (zb qU s k))/\w=w':=by
 go_enter func211,ntmps211
 go_wp2
 go_loop [1] (fun i=>∃j:Nat,k<=j/\j<=s.size/\i = .int .i64 j/\Hid (zb qU s j=zb qU s k)) (fun i=>s.size-(intOf i).toNat)
 case atStart=>exact⟨k,vL _,hk,rfl,vH rfl⟩
 case round=>
  obtain⟨j,hj,hj2,rfl,hE⟩:=hrel
  by_cases hlt:j<s.size
  ·by_cases hp:qU s[j].toNat=true
   ·have hE2:=vH ((Qf hlt hp).trans hE.out)
    clear hE
    go_wp2_with (go_at_call 230;refine(JE _ _).mono ?_;rintro e w' ⟨rfl,rfl⟩)
    go_round
    case rel=>exact⟨j+1,by omega,by omega,by go_num,hE2⟩
    case measure=>simp[intOf];omega
   ·have hp':qU s[j].toNat=false:=by simpa using hp
    have hE2:=vH (hE.out.symm.trans (Qg hlt hp'))
    clear hE hp
    go_wp2_with (go_at_call 230;refine(JE _ _).mono ?_;rintro e w' ⟨rfl,rfl⟩)
    go_ret
    exact⟨qI (by rw[hE2.out]),rfl⟩
  ·have hE2:=vH (hE.out.symm.trans (QL (by omega)))
   clear hE
   go_wp2_with fail
   go_ret
   exact⟨qI (by rw[hE2.out]),rfl⟩
theorem qcp(s:ByteArray)(k:Nat)(w:World)(hs:s.size<=65536)(hk:k<=s.size):Calls prog 211 #[.string s,.int .i64 k,.func (.func 221) #[] #[]] w fun e w'=>e = .returned (.int .i64 (zb xK s k))/\w=w':=by
 go_enter func211,ntmps211
 go_wp2
 go_loop [1] (fun i=>∃j:Nat,k<=j/\j<=s.size/\i = .int .i64 j/\Hid (zb xK s j=zb xK s k)) (fun i=>s.size-(intOf i).toNat)
 case atStart=>exact⟨k,vL _,hk,rfl,vH rfl⟩
 case round=>
  obtain⟨j,hj,hj2,rfl,hE⟩:=hrel
  by_cases hlt:j<s.size
  ·by_cases hp:xK s[j].toNat=true
   ·have hE2:=vH ((Qf hlt hp).trans hE.out)
    clear hE
    go_wp2_with (go_at_call 221;refine(QK _ _).mono ?_;rintro e w' ⟨rfl,rfl⟩)
    go_round
    case rel=>exact⟨j+1,by omega,by omega,by go_num,hE2⟩
    case measure=>simp[intOf];omega
   ·have hp':xK s[j].toNat=false:=by simpa using hp
    have hE2:=vH (hE.out.symm.trans (Qg hlt hp'))
    clear hE hp
    go_wp2_with (go_at_call 221;refine(QK _ _).mono ?_;rintro e w' ⟨rfl,rfl⟩)
    go_ret
    exact⟨qI (by rw[hE2.out]),rfl⟩
  ·have hE2:=vH (hE.out.symm.trans (QL (by omega)))
   clear hE
   go_wp2_with fail
   go_ret
   exact⟨qI (by rw[hE2.out]),rfl⟩
end
section
open Go.RowKit
theorem yR{W w1:World}(hb:BX W w1):(∀b o,b<W.heap.size->w1.cell? ⟨b,o,none⟩=W.cell? ⟨b,o,none⟩)/\(∀b o,b<W.heap.size->w1.frozen? ⟨b,o,none⟩=W.frozen? ⟨b,o,none⟩):=
 ⟨fun b o h=>hb.cell (p:=⟨b,o,none⟩) h,fun b o h=>hb.frozen (p:=⟨b,o,none⟩) h⟩
theorem qbL(s:ByteArray)(w:World)(hs:s.size<=65536):Calls prog 66 #[.string s] w fun e w'=>e = .returned (.string s)/\BX w w':=by
 go_enter func66,ntmps66
 go_wp2_with (go_at_call 123;refine(stringslite_Clone _ _ (by omega)).mono ?_;rintro e w' ⟨rfl,hb⟩)
 go_ret
 exact⟨rfl,hb⟩
theorem Ym(kind:Int)(s:ByteArray)(k n:Nat)(w:World)(hs:s.size<=65536)(hk:k<=n)(hn:n<=s.size) :
 Calls prog 224 #[.int .i64 kind,.string s,.int .i64 k,.int .i64 n] w fun e w'=>
  e = .returned (.agg #[.int .i64 kind,.string (s.extract k n),.int .i64 0,.int .i64 0,.int .i64 (k+1)])/\BX w w':=by
 have hx:(s.extract k n).size<=65536:=by simp;omega
 go_enter func224,ntmps224
 go_wp2_with (go_at_call 66;refine(qbL _ _ hx).mono ?_;rintro e w' ⟨rfl,hb⟩;obtain⟨hc,hf⟩:=yR hb;have hz:w.heap.size<w'.heap.size:=(by have:=hb.size;simp at this;omega))
 refine bodyPost_ret (v:=.agg #[.int .i64 kind,.string (s.extract k n),.int .i64 0,.int .i64 0,.int .i64 (k+1)]) (by simp[results,results224,go_sem,hc]) rfl ⟨rfl,?_⟩
 exact(((((((kB _ _).alloc (vL _) _).trans (hb.mono (by simp))).setCell (by simp) _).setCell (by simp) _).setCell (by simp) _).setCell (by simp) _).setCell (by simp) _
theorem qgk(s:ByteArray)(k n:Nat)(w:World)(hs:s.size<=65536)(hk:k<=s.size)(hn:zb qU s k=n)(hle:n<=k+20) :
 Calls prog 220 #[.string s,.int .i64 k] w fun e w'=>
  e = .returned (.tuple #[.agg #[.int .i64 1,.string (s.extract k n),.int .i64 0,.int .i64 0,.int .i64 (k+1)],.int .i64 0])/\BX w w':=by
 have hge:=Jp qU s k
 have hle2:=yF qU s k hk
 rw[hn] at hge hle2
 have C1:=fun w=>XZ s k w hs hk
 rw[hn] at C1
 clear hn
 have C2:=fun w=>Ym 1 s k n w hs hge hle2
 go_enter func220,ntmps220
 go_wp2_with (first
  |(go_at_call 211;refine(C1 _).mono ?_;clear C1;rintro e w' ⟨rfl,rfl⟩)
  |(go_at_call 224;refine(C2 _).mono ?_;clear C2;rintro e w' ⟨rfl,hb⟩;obtain⟨hc,hf⟩:=yR hb;have hz:w.heap.size<w'.heap.size:=(by have:=hb.size;simp at this;omega)))
 refine bodyPost_ret (v:=.tuple #[.agg #[.int .i64 1,.string (s.extract k n),.int .i64 0,.int .i64 0,.int .i64 (k+1)],.int .i64 0]) (by simp[results,results220,go_sem,hc]) rfl ⟨rfl,?_⟩
 exact(((((((kB _ _).alloc (vL _) _).trans (hb.mono (by simp))).setCell (by simp) _).setCell (by simp) _).setCell (by simp) _).setCell (by simp) _).setCell (by simp) _
theorem qcq(s:ByteArray)(k n:Nat)(w:World)(hs:s.size<=65536)(hk:k<s.size)(hl:xe s[k].toNat=true)(hn:zb qU s k=n)(hle:n<=k+20) :
 Calls prog 213 #[.string s,.int .i64 k] w fun e w'=>
  e = .returned (.tuple #[.agg #[.int .i64 1,.string (s.extract k n),.int .i64 0,.int .i64 0,.int .i64 (k+1)],.int .i64 0])/\BX w w':=by
 have C2:=fun w=>qgk s k n w hs (by omega) hn hle
 have C1:=fun w=>yv s[k].toNat w
 rw[hl] at C1
 clear hn hl
 go_enter func213,ntmps213
 go_wp2_with (first
  |(go_at_call 219;refine(C1 _).mono ?_;clear C1;rintro e w' ⟨rfl,rfl⟩)
  |(go_at_call 220;refine(C2 _).mono ?_;clear C2;rintro e w' ⟨rfl,hb⟩;obtain⟨hc,hf⟩:=yR hb;have hz:w.heap.size<w'.heap.size:=(by have:=hb.size;simp at this;omega)))
 refine bodyPost_ret (v:=.tuple #[.agg #[.int .i64 1,.string (s.extract k n),.int .i64 0,.int .i64 0,.int .i64 (k+1)],.int .i64 0]) (by simp[results,results213,go_sem,hc]) rfl ⟨rfl,?_⟩
 exact(((((((kB _ _).alloc (vL _) _).trans (hb.mono (by simp))).setCell (by simp) _).setCell (by simp) _).setCell (by simp) _).setCell (by simp) _).setCell (by simp) _
end
section
open Go.RowKit
def qd(W:World)(b:Nat)(t:TypeId)(cs:Array Value):Prop:=W.heap[b]?=some (.cells cs t (0,0))
theorem qd.new(W:World)(t:TypeId)(cs:Array Value):qd (W.alloc (.cells cs t)) W.heap.size t cs:=World.alloc_heap_new W _
theorem qd.cell{W:World}{b:Nat}{t:TypeId}{cs:Array Value}(h:qd W b t cs){j:Nat}{v:Value}(hj:cs[j]?=some v):W.cell? ⟨b,j,none⟩=some v:=by
 unfold World.cell?;rw[show W.heap[b]?=_ from h];exact hj
theorem qd.frozen{W:World}{b:Nat}{t:TypeId}{cs:Array Value}(h:qd W b t cs)(j:Nat):W.frozen? ⟨b,j,none⟩=false:=by
 unfold World.frozen?;rw[show W.heap[b]?=_ from h];simp
theorem qd.lt{W:World}{b:Nat}{t:TypeId}{cs:Array Value}(h:qd W b t cs):b<W.heap.size:=(Array.getElem?_eq_some_iff.1 h).1
theorem qd.kept{W W':World}{row:Option Nat}{b:Nat}{t:TypeId}{cs:Array Value}(h:qd W b t cs)(hg:W.grownBy W' row)(hne:some b≠row):qd W' b t cs:=(hg.block b h.lt hne).trans h
theorem qd.alloc{W:World}{b:Nat}{t:TypeId}{cs:Array Value}(h:qd W b t cs)(o:Obj):qd (W.alloc o) b t cs:=h.kept (World.grownBy_alloc W o none) (by simp)
theorem qd.below{W W':World}{B b:Nat}{t:TypeId}{cs:Array Value}(h:qd W b t cs)(hb:Below B W W')(hlt:b<B):qd W' b t cs:=(hb.block b hlt).trans h
theorem qd.other{W:World}{b T j:Nat}{t:TypeId}{cs:Array Value}(h:qd W b t cs)(hne:b≠T)(v:Value):qd (W.setCell ⟨T,j,none⟩ v) b t cs:=(Below.heap_setCell W ⟨T,j,none⟩ v b hne).trans h
theorem ja{β:Type}(b:Nat)(t:TypeId)(f:β->Array Value):Own (fun s W=>qd W b t (f s)):=fun s X Y row hs hg hrow=>
 hs.kept hg (fun e'=>by obtain⟨o,ho,hc⟩:=hrow b e'.symm;rw[show X.heap[b]?=_ from hs] at ho;cases ho;cases hc)
theorem zr(W:World)(cs:Array Value)(t:TypeId){j:Nat}{v:Value}(h:cs[j]?=some v):(W.alloc (.cells cs t)).cell? ⟨W.heap.size,j,none⟩=some v:=(qd.new W t cs).cell h
theorem zo(W:World)(cs:Array Value)(t:TypeId)(l:List Value)(h:cs.toList=l):∀j u,l[j]?=some u->(W.alloc (.cells cs t)).cell? ((⟨W.heap.size,0,none⟩:Addr).add j)=some u:=by
 intro j u hj
 have:((⟨W.heap.size,0,none⟩:Addr).add j)=⟨W.heap.size,j,none⟩:=by
  simp[Addr.add];exact fun e=>e.symm
 rw[this]
 exact zr W cs t (by rw[←hj,←h];simp)
theorem qk{W:World}{a:Addr}{v:Value}(o:Obj)(h:W.cell? a=some v):(W.alloc o).cell? a=some v:=cell_kept h (World.grownBy_alloc W o none) (fun r e=>by cases e)
theorem qam(W:World)(n:Nat)(a:Addr):(W.drewN n).cell? a=W.cell? a:=rfl
theorem qb{W W':World}{p:Addr}{v:Value}(hb:BX W W')(h:W.cell? p=some v):W'.cell? p=some v:=(hb.cell (kW _ _ h)).trans h
theorem qs{w w':World}{p:Addr}{v:Value}(hb:BX w w')(h:w.cell? p=some v:=by first|assumption|(simp[*];done)):w'.cell? p=some v:=qb hb h
theorem qi{w:World}{o:Obj} : BX w (w.alloc o):=(kB _ _).alloc (vL _) _
def zg(Ts:List Nat)(W:World)(b:Nat):Prop:=
 b∈Ts∨∃t,t∈Ts/\∃ (o:Nat) (a:Addr) (n c:Nat),W.cell? ⟨t,o,none⟩=some (.slice (some a) n c)/\a.block=b
def zp(Ts:List Nat)(W:World):Prop:=∀b,zg Ts W b->b<W.heap.size
structure qR(Ts:List Nat)(A B:World):Prop where
 size:A.heap.size<=B.heap.size
 ok:zp Ts A->zp Ts B
 own:zp Ts A->∀b,b<A.heap.size->¬ zg Ts A b->¬ zg Ts B b
 keep:zp Ts A->∀b o,A.heap[b]?=some o->o.isCells=true->¬ zg Ts A b->B.heap[b]?=some o
theorem qD{W:World}{b:Nat}{o:Obj}(h:W.heap[b]?=some o):b<W.heap.size:=(Array.getElem?_eq_some_iff.1 h).1
theorem qR.refl(Ts:List Nat)(A:World):qR Ts A A:=⟨vL _,id,fun _ _ _ h=>h,fun _ _ _ h _ _=>h⟩
theorem qR.trans{Ts:List Nat}{A B C:World}(h:qR Ts A B)(k:qR Ts B C):qR Ts A C:=
 ⟨vR h.size k.size,fun ok=>k.ok (h.ok ok),
  fun ok b hb ho=>k.own (h.ok ok) b (vW hb h.size) (h.own ok b hb ho),
  fun ok b o hb hc ho=>k.keep (h.ok ok) b o (h.keep ok b o hb hc ho) hc (h.own ok b (qD hb) ho)⟩
theorem yj{Ts:List Nat}{A B:World}(h:∀t,t∈Ts->B.heap[t]?=A.heap[t]?)(b:Nat):zg Ts B b↔zg Ts A b:=by
 unfold zg
 constructor
 ·rintro(h1|⟨t,ht,o,a,n,c,hc,ha⟩)
  ·exact .inl h1
  ·exact .inr ⟨t,ht,o,a,n,c,by rw[←World.cell?_of_block (a:=⟨t,o,none⟩) (h t ht)];exact hc,ha⟩
 ·rintro(h1|⟨t,ht,o,a,n,c,hc,ha⟩)
  ·exact .inl h1
  ·exact .inr ⟨t,ht,o,a,n,c,by rw[World.cell?_of_block (a:=⟨t,o,none⟩) (h t ht)];exact hc,ha⟩
theorem zp.lt{Ts:List Nat}{W:World}(h:zp Ts W){t:Nat}(ht:t∈Ts):t<W.heap.size:=h t (.inl ht)
theorem zp.below{Ts:List Nat}{A B:World}(h:zp Ts A)(hb:BX A B):zp Ts B:=
 fun b ho=>vW (h b ((yj (fun t ht=>hb.block t (h.lt ht)) b).1 ho)) hb.size
theorem zF{Ts:List Nat}{A B:World}(h:zp Ts A)(hb:BX A B)(b:Nat):zg Ts B b↔zg Ts A b:=
 yj (fun t ht=>hb.block t (h.lt ht)) b
theorem zi{Ts:List Nat}{A B:World}(h:zp Ts A)(hb:BX A B){b:Nat}(hge:A.heap.size<=b):¬ zg Ts B b:=
 fun ho=>absurd (h b ((zF h hb b).1 ho)) (by omega)
theorem qR.of_below{Ts:List Nat}{A B:World}(hb:BX A B):qR Ts A B:=
 ⟨hb.size,fun h=>h.below hb,fun h b _ ho=>fun h'=>ho ((zF h hb b).1 h'),fun _ b _ ho _ _=>(hb.block b (qD ho)).trans ho⟩
theorem qdi{Ts:List Nat} : ∀ {A B C:World},qR Ts A B->qR Ts B C->qR Ts A C:=fun h k=>h.trans k
theorem Zg{Ts:List Nat}{B0:Nat}(hT:∀t,t∈Ts->t<B0)(W:World)(l:Nat)(o o':Obj)(hl:B0<=l)(ho:W.heap[l]?=some o)(hc:o.isCells=false)(_:o.isWalk=false):qR Ts W (W.putObj l o'):=by
 have hne:∀t,t∈Ts->(W.putObj l o').heap[t]?=W.heap[t]?:=fun t ht=>kP (by have:=hT t ht;omega)
 have hs:(W.putObj l o').heap.size=W.heap.size:=by simp
 refine⟨by omega,fun h b hb=>by rw[hs];exact h b ((yj hne b).1 hb),fun _ b _ h h'=>h ((yj hne b).1 h'),fun _ b p hp hpc _=>?_⟩
 have:b≠l:=fun e=>by subst e;rw[hp] at ho;cases ho;rw[hc] at hpc;cases hpc
 exact(kP this).trans hp
theorem qR.cell{Ts:List Nat}{A B:World}(h:qR Ts A B)(ok:zp Ts A){p:Addr}{v:Value}(hc:A.cell? p=some v)(ho:¬ zg Ts A p.block):B.cell? p=some v:=by
 have hex:∃o,A.heap[p.block]?=some o/\o.isCells=true:=by
  cases hh:A.heap[p.block]? with
  | none=>simp[World.cell?,hh] at hc
  | some o=>cases o <;> simp[World.cell?,hh,Obj.isCells] at hc ⊢
 obtain⟨o,ho1,ho2⟩:=hex
 rw[World.cell?_of_block (w:=A) ((h.keep ok _ o ho1 ho2 ho).trans ho1.symm)];exact hc
theorem xz{W W':World}(hb:BX W W'):W.grownBy W' none:=⟨hb.os,hb.tape,hb.output,hb.size,fun k hk _=>hb.block k hk⟩
theorem JF{β:Type}{B:Nat}{J:β->World->Prop}(h:AbidesFrom B J){s:β}{W W':World}(hj:J s W)(hb:BX W W'):J s W':=
 h s W W' none hj (xz hb) (fun r e=>by cases e)
theorem XF{W:World}{T:Nat}{t:TypeId}{v:Value}(h:Boxed W T t v){b:Nat}(ho:zg [T] W b):b=T∨∃ (a:Addr) (n c:Nat),v = .slice (some a) n c/\a.block=b:=by
 rcases ho with h1|⟨t',ht,o,a,n,c,hc,ha⟩
 ·exact .inl (by simpa using h1)
 ·obtain rfl:t'=T:=by simpa using ht
  unfold World.cell? at hc;rw[show W.heap[t']?=_ from h] at hc
  have hj:(#[v]:Array Value)[o]?=some (.slice (some a) n c):=hc
  match o,hj with
  | 0,hj=>exact .inr ⟨a,n,c,by simpa using hj,ha⟩
  | o+1,hj=>simp at hj
theorem qjZ{B:World}{p q:Addr}{v x:Value}(h:(B.setCell p v).cell? q=some x):(q=p/\x=v)∨B.cell? q=some x:=by
 by_cases e:p=q
 ·subst e
  cases hc:B.cell? p with
  |none=>
   have:(B.setCell p v).cell? p=none:=by
    unfold World.cell? at hc ⊢
    simp only[World.setCell,Array.getElem?_modify,if_true]
    cases hh:B.heap[p.block]? with
    | none=>rfl
    | some o=>rw[hh] at hc;cases o <;> simp_all
   rw[this] at h;cases h
  |some u=>
   rw[World.cell?_setCell_same _ _ _ hc] at h
   exact .inl ⟨rfl,(Option.some.inj h).symm⟩
 ·rw[World.cell?_setCell_other _ _ _ _ e] at h
  exact .inr h
theorem YJ{Ts:List Nat}{A B:World}{row:Option Nat}{T j:Nat}{v:Value}(hg:A.grownBy B row)(hrow:∀r,row=some r->zg Ts A r/\r∉Ts)(hT:T∈Ts)
 (hv:∀a n c,v = .slice (some a) n c->(zg Ts A a.block∨A.heap.size<=a.block)/\a.block<B.heap.size):qR Ts A (B.setCell ⟨T,j,none⟩ v):=by
 have hs:(B.setCell ⟨T,j,none⟩ v).heap.size=B.heap.size:=World.size_setCell _ _ _
 have hsame:zp Ts A->∀t,t∈Ts->B.heap[t]?=A.heap[t]?:=fun ok t ht=>hg.block t (ok.lt ht) (fun e=>(hrow t e.symm).2 ht)
 have key:zp Ts A->∀b,zg Ts (B.setCell ⟨T,j,none⟩ v) b->(zg Ts A b∨A.heap.size<=b)/\b<B.heap.size:=by
  rintro ok b (h1|⟨t,ht,o,a,n,c,hc,ha⟩)
  ·exact⟨.inl (.inl h1),vW (ok.lt h1) hg.size⟩
  ·rcases qjZ hc with⟨_,e⟩|hc'
   ·have:=hv a n c e.symm;rw[ha] at this;exact this
   ·have hA:zg Ts A b:=(yj (hsame ok) b).1 (.inr ⟨t,ht,o,a,n,c,hc',ha⟩)
    exact⟨.inl hA,vW (ok b hA) hg.size⟩
 refine⟨by rw[hs];exact hg.size,fun ok b hb=>by rw[hs];exact(key ok b hb).2,fun ok b hb ho h'=>?_,fun ok b o hb _ ho=>?_⟩
 ·rcases(key ok b h').1 with h1|h1
  ·exact ho h1
  ·omega
 ·have hne:b≠T:=fun e=>ho (.inl (e ▸ hT))
  have h1:(B.setCell ⟨T,j,none⟩ v).heap[b]?=B.heap[b]?:=Below.heap_setCell B ⟨T,j,none⟩ v b hne
  rw[h1,hg.block b (qD hb) (fun e=>ho (hrow b e.symm).1)]
  exact hb
theorem qE{W w1:World}{o:Obj}{row:Option Nat}(h:(W.alloc o).grownBy w1 row):W.grownBy w1 row:=
 ⟨h.os,h.tape,h.output,vR (by simp) h.size,fun k hk hne=>(h.block k (by simp;omega) hne).trans (Below.heap_alloc W o k hk)⟩
theorem qd.not_row{W:World}{T:Nat}{t e:TypeId}{cs:Array Value}(h:qd W T t cs)(hte:t≠e){base size k:Nat}{v:Value}{xs:List Value}(hr:W.ownsRow base e size v k xs):some T≠v.ownBlock:=by
 rcases hr.2 with⟨rfl,_⟩|⟨g,cap,cur,rfl,_,hgb,_⟩
 ·simp[Value.ownBlock]
 ·intro e'
  obtain rfl:T=g:=by simpa[Value.ownBlock] using e'
  rw[show W.heap[T]?=_ from h] at hgb
  cases hgb;exact hte rfl
theorem qu{W:World}{base:Nat}{e:TypeId}{size n g cap k:Nat}{xs:List Value}(h:W.ownsRow base e size (.slice (some ⟨g,0,none⟩) n cap) k xs){j:Nat}{v:Value}(hj:xs[j]?=some v):W.cell? ⟨g,j,none⟩=some v:=by
 rcases h.2 with⟨h0,_⟩|⟨g',cap',cur,h1,_,hgb,_,_,_,ht⟩
 ·cases h0
 ·cases h1
  unfold World.cell?;rw[hgb]
  show cur[j]?=some v
  rw[←ht,List.getElem?_take] at hj
  split at hj
  ·simpa using hj
  ·cases hj
theorem ZV{W w1:World}{T j:Nat}{t e:TypeId}{size base:Nat}{cs:Array Value}{v v':Value}{k m:Nat}{xs ys:List Value}{tmp:Obj}
 (hv:qd W T t cs) (hj:cs[j]?=some v) (hte:t≠e) (hrow:W.ownsRow base e size v k xs) (hown':w1.ownsRow base e size v' m ys) (hgrow:(W.alloc tmp).grownBy w1 v.ownBlock)
 (hblk:v'.ownBlock=v.ownBlock∨v'.ownBlock=some (W.alloc tmp).heap.size):qR [T] W (w1.setCell ⟨T,j,none⟩ v'):=by
 have hOw:∀r,v.ownBlock=some r->zg [T] W r:=fun r hr=>by
  rcases hrow.2 with⟨rfl,_⟩|⟨g,cap,cur,rfl,_,hgb,_⟩
  ·simp[Value.ownBlock] at hr
  ·obtain rfl:g=r:=by simpa[Value.ownBlock] using hr
   exact .inr ⟨T,by simp,j,_,_,_,hv.cell hj,rfl⟩
 refine YJ (qE hgrow) (fun r hr=>⟨hOw r hr,?_⟩) (by simp) ?_
 ·have:=hv.not_row hte hrow
  intro hm
  obtain rfl:r=T:=by simpa using hm
  exact this hr.symm
 ·intro a n c e'
  have hlt:a.block<w1.heap.size:=by
   rcases hown'.2 with⟨h,_⟩|⟨g,cap,cur,h,_,hgb,_⟩
   ·rw[e'] at h;cases h
   ·rw[e'] at h;cases h;exact qD hgb
  refine⟨?_,hlt⟩
  have hb:v'.ownBlock=some a.block:=by rw[e'];rfl
  rcases hblk with h|h
  ·exact .inl (hOw _ (by rw[←h,hb]))
  ·refine .inr ?_
   rw[hb] at h
   have:=Option.some.inj h
   simp at this;omega
end
section
open Go.RowKit Go.Shelf
attribute [local go_sem] Oper.semAt_some
def Env(w:World):Prop:=∃m:Int,w.cell? ⟨2,0,none⟩=some (.int .i64 m)
theorem Env.below{w w':World}(h:Env w)(hb:BX w w'):Env w':=by
 obtain⟨m,hm⟩:=h
 exact⟨m,(hb.cell (kW _ _ hm)).trans hm⟩
structure xo(s:ByteArray):Prop where
 pos:0<s.size
 le:s.size<=20
 first:xe (s[0]'pos).toNat=true
 all:∀c,c∈s.data.toList->qU c.toNat=true
theorem qan(c:UInt8)(h:qU c.toNat=true):Qv c.toNat=false:=by
 unfold qU xe xK at h;unfold Qv
 simp at h ⊢;omega
theorem qdj{l:List UInt8}(h:∀c,c∈l->qU c.toNat=true):∀c,c∈l->c≠35:=fun c hc e=>by
 subst e;have:=h _ hc;revert this;decide
theorem qdk{l:List UInt8}(h:∀c,c∈l->qU c.toNat=true):∀c,c∈l->c≠10:=fun c hc e=>by
 subst e;have:=h _ hc;revert this;decide
theorem Xj{l:List UInt8}{c:UInt8}(h:∀x,x∈l->x≠c):Lib.indexByte l c = -1:=by
 induction l with
 | nil=>rfl
 |cons b l ih=>
  have hb:(b==c)=false:=by simpa using h b (by simp)
  simp[Lib.indexByte,hb,ih fun x hx=>h x (by simp[hx])]
theorem qij{l:List UInt8}{c:UInt8}(h:∀x,x∈l->x≠c):Lib.cut l [c]=(l,[],false):=by
 unfold Lib.cut;rw[Lib.index_one,Xj h];simp
theorem xo.letterIn{s:ByteArray}(h:xo s):qU (s[0]'h.pos).toNat=true:=by unfold qU;simp[h.first]
theorem Zh{α:Type}{p:α->Bool} : ∀ {l:List α},(∀x,x∈l->p x=true)->l.takeWhile p=l
 | [],_=>rfl
 | a::l,h=>by rw[List.takeWhile_cons,h a (by simp),if_pos rfl,Zh fun x hx=>h x (by simp[hx])]
theorem xo.span{s:ByteArray}(h:xo s):zb qU s 0=s.size:=by
 unfold zb
 rw[List.drop_zero,Zh h.all];simp
theorem xo.blank0{s:ByteArray}(h:xo s):zb Qv s 0=0:=Qg h.pos (qan _ h.letterIn)
theorem qdl(s:ByteArray):s.extract 0 s.size=s:=by simp
theorem qik(s:ByteArray)(n:Int)(w:World)(hE:Env w)(hs:s.size<=65536)(hno:∀c,c∈s.data.toList->c≠35) :
 Calls prog 205 #[.string s,.int .i64 n] w fun e w'=>
  e = .returned (.func (.func 210) #[] #[.pointer (some ⟨w.heap.size+1,0,none⟩),.pointer (some ⟨w.heap.size,0,none⟩)]) /\
  ∃d,w'=((w.alloc (.cells #[.int .i64 n] 3)).alloc (.cells #[.string s] 9)).drewN d:=by
 obtain⟨m,hm⟩:=hE
 have C:=strings_Cut s ⟨#[35]⟩ m (w.alloc (.cells #[.int .i64 n] 3)) (by omega) (by rw[World.cell?_alloc_old _ _ _ (Nat.ne_of_lt (kW _ _ hm))];exact hm)
 rw[show(⟨#[35]⟩:ByteArray).data.toList = [35] from rfl,qij hno] at C
 clear hm
 go_enter func205,ntmps205
 go_wp2_with (go_at_call 209;refine C.mono ?_;clear C;rintro e w' ⟨rfl,d,rfl⟩)
 go_ret
 exact⟨rfl,d,rfl⟩
def Yk(s:ByteArray)(n:Int):Value:=.agg #[.int .i64 1,.string s,.int .i64 0,.int .i64 n,.int .i64 1]
theorem qil(m:Nat)(Ts:List Nat)(Bs Bn l:Nat)(s:ByteArray)(n:Int)(J Jx:List Unit->World->Prop)(W:World)
 (hm:1<=m) (hN:xo s) (hs:W.cell? ⟨Bs,0,none⟩=some (.string s)) (hn:W.cell? ⟨Bn,0,none⟩=some (.int .i64 n)) (hok:zp Ts W) (hos:¬ zg Ts W Bs) (hon:¬ zg Ts W Bn)
 (hJ:AbidesFrom W.heap.size J) (hY:∀pre x W1,J pre W1->pre.length<1->YieldAt Fence.wide (m-1) prog l #[Yk s n,.int .i64 0] W1 fun e W'=>
   (e = .returned (.bool true)/\J (pre++[x]) W'/\qR Ts W1 W')∨(e = .returned (.bool false)/\Jx (pre++[x]) W')) (h0:J [] W) :
 CallsIn Fence.wide m prog 210 #[.func (.yield l) #[] #[],.pointer (some ⟨Bs,0,none⟩),.pointer (some ⟨Bn,0,none⟩)] W fun e W'=>(∃v,e = .returned v) /\
  ((∃ys,ys = [()]/\J ys W')∨(∃pre,pre <+: [()]/\Jx pre W')):=by
 have hle:s.size<=65536:=by have:=hN.le;omega
 have S0:∀w,Calls prog 211 #[.string s,.int .i64 0,.func (.func 212) #[] #[]] w fun e w'=>e = .returned (.int .i64 0)/\w=w':=fun w=>by
  have:=Zx s 0 w hle (vO _);rw[hN.blank0] at this;exact this
 have S1:∀w,Calls prog 211 #[.string s,.int .i64 s.size,.func (.func 212) #[] #[]] w fun e w'=>e = .returned (.int .i64 s.size)/\w=w':=fun w=>by
  have:=Zx s s.size w hle (vL _);rw[QL (vL _)] at this;exact this
 have S2:∀w,Calls prog 213 #[.string s,.int .i64 0] w fun e w'=>e = .returned (.tuple #[.agg #[.int .i64 1,.string s,.int .i64 0,.int .i64 0,.int .i64 1],.int .i64 0])/\BX w w':=fun w=>by
  have:=qcq s 0 s.size w hle hN.pos hN.first hN.span (by have:=hN.le;omega);rw[qdl] at this;exact this
 have hp:=hN.pos
 clear hN
 refine callsIn_of_wp func210 rfl trivial ?_ rfl
 simp only[ntmps210,List.size_toArray,List.length_cons,List.length_nil,Nat.reduceAdd,Nat.reduceSub,Array.replicate_succ,Array.replicate_zero,List.push_toArray,List.append_toArray,List.nil_append,List.cons_append]
 gi_wp2_with (refine⟨trivial,?_⟩;gi_at_call 211;refine(callsIn_wide.2 (S0 _)).mono ?_;rintro e w' ⟨rfl,rfl⟩)
 gi_loopw [4] (fun i wr=>(i = .int .i64 0/\wr=W)∨(i = .int .i64 s.size/\J [()] wr/\wr.cell? ⟨Bs,0,none⟩=some (.string s))) (fun i _=>s.size-(intOf i).toNat)
 case atStart=>exact .inl ⟨rfl,rfl⟩
 case round=>
  rcases hrel with⟨rfl,rfl⟩|⟨rfl,hj,hs2⟩
  ·have hYY:∀w1,BX wr w1 ->
    (∀o,(w1.alloc o).cell? ⟨Bn,0,none⟩=some (.int .i64 n)) /\
    YieldAt Fence.wide (m-1) prog l #[Yk s n,.int .i64 0] (w1.alloc (.cells #[.int .i64 1,.string s,.int .i64 0,.int .i64 n,.int .i64 1] 252)) fun e W'=>
     (e = .returned (.bool true)/\J [()] W'/\W'.cell? ⟨Bs,0,none⟩=some (.string s)/\W'.cell? ⟨w1.heap.size,1,none⟩=some (.string s))∨(e = .returned (.bool false)/\Jx [()] W'):=fun w1 hb=>by
    have hB2:BX wr (w1.alloc (.cells #[.int .i64 1,.string s,.int .i64 0,.int .i64 n,.int .i64 1] 252)):=hb.alloc hb.size _
    have hlt:=kW _ _ hn
    have hlts:=kW _ _ hs
    refine⟨fun o=>?_,YieldAt.mono (hY [] () _ (JF hJ h0 hB2) (by simp)) fun e W' h=>?_⟩
    ·exact((hb.alloc hb.size o).cell (p:=⟨Bn,0,none⟩) hlt).trans hn
    ·rcases h with⟨he,hj,hk⟩|⟨he,hx⟩
     ·refine .inl ⟨he,hj,hk.cell (hok.below hB2) ((hB2.cell (p:=⟨Bs,0,none⟩) hlts).trans hs) (fun h=>hos ((zF hok hB2 _).1 h)),hk.cell (hok.below hB2) ?_ (zi hok hB2 hb.size)⟩
      unfold World.cell?;rw[World.alloc_heap_new];rfl
     ·exact .inr ⟨he,hx⟩
   unfold Yk at hYY
   clear hY
   gi_wp2_with (first
    |(refine⟨trivial,?_⟩;gi_at_call 213;refine(callsIn_wide.2 (S2 _)).mono ?_;rintro e w1 ⟨rfl,hb⟩;obtain⟨hc,hf⟩:=yR hb;obtain⟨hn1,fn,tmps,assign,body,hy,hR⟩:=hYY w1 hb;clear hYY)
    |(refine hR.mono ?_;clear hR;rintro e W2 (⟨rfl,hJ2,hs2,ht2⟩|⟨rfl,hx2⟩))
    |(refine⟨trivial,?_⟩;gi_at_call 211;refine(callsIn_wide.2 (S1 _)).mono ?_;rintro e w' ⟨rfl,rfl⟩))
   ·exact⟨.inr ⟨rfl,hJ2,hs2⟩,by simp[intOf];omega⟩
   ·refine bodyPost_ret (results_none rfl _ _ _) rfl ?_
    exact⟨⟨_,rfl⟩,.inr ⟨[()],List.prefix_rfl,hx2⟩⟩
  ·gi_wp2_with fail
   go_end0
   exact⟨⟨_,rfl⟩,.inl ⟨[()],rfl,hj⟩⟩
theorem qdm(m:Nat)(Ts:List Nat)(Bs Bn:Nat)(s:ByteArray)(n:Int)(w:World)
 (hm:1<=m) (hN:xo s) (hs:w.cell? ⟨Bs,0,none⟩=some (.string s)) (hn:w.cell? ⟨Bn,0,none⟩=some (.int .i64 n)) (hok:zp Ts w) (hos:¬ zg Ts w Bs) (hon:¬ zg Ts w Bn) :
 SeqStopsK Fence.wide m prog 210 #[.pointer (some ⟨Bs,0,none⟩),.pointer (some ⟨Bn,0,none⟩)] (fun _:Unit=>#[Yk s n,.int .i64 0]) (qR Ts) (fun ys=>ys = [()]) (fun pre=>pre <+: [()]) 1 w:=
 fun l J Jx W hW hJ _ hY h0=>
  qil m Ts Bs Bn l s n J Jx W hm hN ((hW.cell (p:=⟨Bs,0,none⟩) (kW _ _ hs)).trans hs) ((hW.cell (p:=⟨Bn,0,none⟩) (kW _ _ hn)).trans hn)
   (hok.below hW) (fun h=>hos ((zF hok hW _).1 h)) (fun h=>hon ((zF hok hW _).1 h)) hJ hY h0
end
section
open Go.RowKit Go.Shelf
attribute [local go_sem] Oper.semAt_some
theorem ZY{n:Nat}{P:Program}{c:Code}{Q:Exit->Act->World->Prop}{a:Act}{w:World}(h:c.wpIn Fence.wide n P (Exit.noGoto Q) a w):(Code.scope c).wpIn Fence.wide n P Q a w:=
 wpIn_wide.2 (wp_scope_straight (wpIn_wide.1 h))
theorem qdn{s:ByteArray}{c:UInt8}(h:∀x,x∈s.data.toList->x≠c):Lib.countB s ⟨#[c]⟩=0:=by
 apply Lib.countB_miss
 show Lib.index s.data.toList [c] = -1
 rw[Lib.index_one,Xj h]
theorem qgO(s:ByteArray)(w:World)(hE:Env w)(hs:s.size<=65536)(hno:∀c,c∈s.data.toList->c≠10) :
 Calls prog 204 #[.string s,.string ⟨#[10]⟩] w fun e w'=>e = .returned (.slice (some ⟨w.heap.size,0,none⟩) 1 1)/\w'=w.alloc (.cells #[.string s] 9):=by
 obtain⟨m,hm⟩:=hE
 have C:=strings_Split s ⟨#[10]⟩ m w (by omega) hm (by decide)
 rw[qdn hno,Lib.splitB_zero] at C
 exact C
theorem qab:(prog.info? 252).map (fun i=>(i.zero,i.size,i.bytes))=some (some (.agg #[.int .i64 0,.string ⟨#[]⟩,.int .i64 0,.int .i64 0,.int .i64 0]),5,48):=by kernel_rfl
def JG(s:ByteArray):List Value:=[.int .i64 1,.string s,.int .i64 0,.int .i64 1,.int .i64 1]
def qlG(w:World)(s:ByteArray)(pre:List Unit)(W:World):Prop:=
 (∃v,Boxed W (w.heap.size+1) 248 v/\W.ownsRow w.heap.size 252 5 v pre.length (pre.flatMap fun _=>JG s)/\True)/\BX w W /\
   qd W w.heap.size 9 #[.string s]/\qd W (w.heap.size+1+1+1) 35 #[.int .i64 0]/\w.heap.size+6<=W.heap.size
theorem qdo(w:World)(s:ByteArray)(B:Nat)(hB:w.heap.size<=B):OwnFrom B (qlG w s):=
 OwnFrom.and (Own.from (holdsRow_own _ _ _ _ _ (fun pre:List Unit=>pre.length) (fun pre=>pre.flatMap fun _=>JG s) (fun _ _=>True)) _)
  (OwnFrom.and (ownFrom_below (vL _) hB) (OwnFrom.and (Own.from (ja _ _ fun _=>_) _) (OwnFrom.and (Own.from (ja _ _ fun _=>_) _) (fun _ _ _ _ hs hg _=>vR hs hg.size))))
def qim(w:World)(s:ByteArray)(Bt:Nat):Act:={ tmps:=#[Value.string s,undef,Value.slice none 0 0,Value.int .i64 0,Value.int .i64 0,Value.int .i64 0,Value.slice (some ⟨w.heap.size,0,none⟩) 1 1,Value.pointer (some ⟨w.heap.size+1,0,none⟩),Value.pointer (some ⟨w.heap.size+1+1,0,none⟩),Value.pointer (some ⟨w.heap.size+1+1+1,0,none⟩),Value.int .i64 0,Value.string s,Value.pointer (some ⟨Bt,0,none⟩),Value.int .i64 0,undef,Value.string s,Value.int .i64 s.size,Value.bool (decide (65536<(s.size:Int))),Value.string s,Value.slice (some ⟨w.heap.size,0,none⟩) 1 1,Value.slice (some ⟨w.heap.size,0,none⟩) 1 1,Value.int .i64 1,Value.int .i64 0,Value.bool true,Value.int .i64 0,Value.pointer (some ⟨w.heap.size,0,none⟩),Value.string s,Value.string s,Value.int .i64 0,Value.int .i64 1,Value.func (.func 210) #[] #[.pointer (some ⟨w.heap.size+4+1,0,none⟩),.pointer (some ⟨w.heap.size+4,0,none⟩)],Value.agg #[.int .i64 1,.string s,.int .i64 0,.int .i64 1,.int .i64 1],Value.int .i64 0,undef,undef,undef,undef,undef,undef,undef,undef,undef,undef,undef,undef,undef,undef,undef,undef,undef,undef,undef,undef,undef,undef,undef,undef,undef,undef,undef,undef,undef,undef],defers:=[] }
theorem qdp(s:ByteArray)(w:World)(hE:Env w)(hN:xo s) :
 Calls prog 199 #[.string s] w fun e w'=>∃g c,e = .returned (.tuple #[.slice (some ⟨g,0,none⟩) 2 c,.int .i64 0,.int .i64 0,.int .i64 0]) /\
  w'.cell? ⟨g,0,none⟩=some (.int .i64 1)/\w'.cell? ⟨g,1,none⟩=some (.string s)/\BX w w':=by
 have hle:=hN.le
 have C1:=qgO s w hE (by omega) (qdk hN.all)
 refine(callsIn_wide (n:=4)).1 ?_
 refine callsIn_of_wp_marks func199 rfl trivial ?_ rfl
 simp only[ntmps199,List.size_toArray,List.length_cons,List.length_nil,Nat.reduceAdd,Nat.reduceSub,Array.replicate_succ,Array.replicate_zero,List.push_toArray,List.append_toArray,List.nil_append,List.cons_append]
 gi_wp2
 apply ZY
 gi_wp2_with (refine⟨trivial,?_⟩;gi_at_call 204;refine(callsIn_wide.2 C1).mono ?_;rintro e w' ⟨rfl,rfl⟩)
 apply wpIn_label
 gi_wp2_with fail
 generalize hW:((((w.alloc (.cells #[.string s] 9)).alloc (.cells #[.slice none 0 0] 248)).alloc (.cells #[.int .i64 0,.string ⟨#[]⟩,.int .i64 0,.int .i64 0,.int .i64 0] 252)).alloc (.cells #[.int .i64 0] 35))=W0
 have hB0:BX w W0:=by rw[←hW];exact((((kB _ _).alloc (vL _) _).alloc (by simp) _).alloc (by simp;omega) _).alloc (by simp;omega) _
 have hz0:W0.heap.size=w.heap.size+4:=by rw[←hW];simp
 have hl0:qd W0 w.heap.size 9 #[.string s]:=by rw[←hW];exact(((qd.new _ _ _).alloc _).alloc _).alloc _
 have h70:Boxed W0 (w.heap.size+1) 248 (.slice none 0 0):=by
  rw[←hW]
  have:=(Boxed.new (w.alloc (.cells #[.string s] 9)) 248 (.slice none 0 0))
  rw[vZ] at this
  exact(this.alloc _).alloc _
 have h90:qd W0 (w.heap.size+1+1+1) 35 #[.int .i64 0]:=by
  rw[←hW]
  have:=qd.new (((w.alloc (.cells #[.string s] 9)).alloc (.cells #[.slice none 0 0] 248)).alloc (.cells #[.int .i64 0,.string ⟨#[]⟩,.int .i64 0,.int .i64 0,.int .i64 0] 252)) 35 #[.int .i64 0]
  simp only[vZ] at this;exact this
 have cl0:=hl0.cell (j:=0) rfl
 have hE0:Env W0:=hE.below hB0
 clear hW C1
 have C2:=qik s 1 W0 hE0 (by omega) (qdj hN.all)
 refine wpIn_loop_rounds 2 ?_
 rw[roundsIn_succ]
 gi_wp2_with (refine⟨trivial,?_⟩;gi_at_call 205;refine(callsIn_wide.2 C2).mono ?_;clear C2;rintro e w' ⟨rfl,d,rfl⟩)
 generalize hW:((W0.alloc (.cells #[.int .i64 1] 3)).alloc (.cells #[.string s] 9)).drewN d=We
 have hBd:BX W0 We:=by rw[←hW];exact below_drewN (((kB _ _).alloc (vL _) _).alloc (by simp) _) d
 have hBe:BX w We:=hB0.trans (hBd.mono (by omega))
 have hze:We.heap.size=w.heap.size+6:=by rw[←hW];simp[hz0]
 have hle0:qd We w.heap.size 9 #[.string s]:=hl0.below hBd (by omega)
 have h7e:Boxed We (w.heap.size+1) 248 (.slice none 0 0):=(hBd.block _ (by omega)).trans h70
 have h9e:qd We (w.heap.size+1+1+1) 35 #[.int .i64 0]:=h90.below hBd (by omega)
 have hse:We.cell? ⟨w.heap.size+4+1,0,none⟩=some (.string s):=by
  rw[←hW,qam]
  have:=zr (W0.alloc (.cells #[.int .i64 1] 3)) #[.string s] 9 (j:=0) rfl
  rw[vZ,hz0] at this;exact this
 have hne:We.cell? ⟨w.heap.size+4,0,none⟩=some (.int .i64 1):=by
  rw[←hW,qam]
  have:=zr W0 #[.int .i64 1] 3 (j:=0) rfl
  rw[hz0] at this;exact qk _ this
 clear hW h90 h70 hl0 cl0 hB0 hE0 hE hBd hz0
 have hok:zp [w.heap.size+1] We:=fun b hb=>by
  rcases XF h7e hb with h|⟨a,n,c,h,_⟩
  ·omega
  ·cases h
 have hno:∀b,b≠w.heap.size+1->¬ zg [w.heap.size+1] We b:=fun b hb h=>by
  rcases XF h7e h with h|⟨a,n,c,h,_⟩
  ·exact hb h
  ·cases h
 refine wpIn_rangeFunc_ownH (F:=Fence.wide) rfl (by omega) (gf:=210) (lb:=#[.pointer (some ⟨w.heap.size+4+1,0,none⟩),.pointer (some ⟨w.heap.size+4,0,none⟩)]) rfl trivial (enters_of func210 (by kernel_rfl) rfl)
  (qdm 3 [w.heap.size+1] (w.heap.size+4+1) (w.heap.size+4) s 1 We (by omega) hN hse hne hok (hno _ (by omega)) (hno _ (by omega))) qdi (Zg (by simp;omega)) (kB _ _) (fun _=>rfl)
  (qlG w s) (fun _ _ _=>False) (qdo w s _ (by omega)) (fun _ _ _ _ _ hs _ _=>hs) ⟨⟨_,h7e,kO _ _ _ _,trivial⟩,hBe,hle0,h9e,by omega⟩
  (fun _ a' W=>∃Bt,w.heap.size+6<=Bt/\qd W Bt 252 #[.int .i64 1,.string s,.int .i64 0,.int .i64 1,.int .i64 1]/\a'=qim w s Bt)
  (fun _ a'=>fun _ A B row hs hg hr=>by
    obtain⟨Bt,h1,h2,h3⟩:=hs
    exact⟨Bt,h1,ja (β:=Unit) Bt _ (fun _=>_) () A B row h2 hg (fun r e=>(hr r e).2),h3⟩)
  ?assign ?body ?done ?stop
 case assign=>
  rintro l pre x W K hi hK
  unfold Yk
  gi_wp2
  have hb:=hi.2.2.2.2
  refine hK _ _ ((KeepsOthers.alloc _ _).from _) (qR.of_below ((kB _ W).alloc (vL _) _)) ?_ ⟨W.heap.size,by omega,qd.new W _ _,rfl⟩
  exact(qdo w s (w.heap.size+6) (by omega)).alloc _ hi
 case body=>
  rintro l pre x a' W hl ⟨r,hr⟩ ⟨⟨v,hv,hrow,_⟩,hB,hls,h9,hz⟩ ⟨Bt,hBt,bT,rfl⟩ hlen
  obtain rfl:pre = []:=by cases pre <;> simp at hlen ⊢
  have c0:=bT.cell (j:=0) rfl
  have c1:=bT.cell (j:=1) rfl
  have c2:=bT.cell (j:=2) rfl
  have c3:=bT.cell (j:=3) rfl
  have c4:=bT.cell (j:=4) rfl
  have cv:=hv.cell
  obtain⟨i0,hi,hz0,hz1,hz2⟩:=info_parts qab
  unfold qim
  gi_wp2_with (gi_at_builtin;refine wpListIn_append_own_at _ rfl _ _ 248 rfl w.heap.size 252 i0 _ 5 48 underlying248 hi hz0 hz1 hz2 rfl (by decide) _ _ _ rfl (hrow.alloc _) ⟨W.heap.size,0,none⟩ 1 1 [.int .i64 1,.string s,.int .i64 0,.int .i64 1,.int .i64 1] rfl rfl (zo _ _ _ _ rfl) (by simp[Value.oneCell']) (by simp[maxLen]) (by simp) (by simp;omega) ?_;go_loud (intro v' w1 hown' hgrow _ hblk;obtain⟨g',cap',rfl⟩:=ownsRow_succ hown';have hap:=hv.appended (by decide) hrow (by omega) (by omega) hown' hgrow;have hc1:=hap.1.cell;have hf1:=hap.1.frozen))
  refine⟨hap.2.2.2.1.from _,ZV (show qd W _ _ #[v] from hv) rfl (by decide) hrow hown' hgrow hblk,⟨_,hap.2.1,hap.2.2.1,trivial⟩,hB.trans hap.2.2.2.2,?_,?_,?_⟩
  ·exact((hls.alloc _).kept hgrow (hls.not_row (by decide) hrow)).other (by omega) _
  ·exact((h9.alloc _).kept hgrow (h9.not_row (by decide) hrow)).other (by omega) _
  ·have:=hap.2.2.2.2.size;simp at this ⊢;omega
 case done=>
  rintro D ys W hD rfl ⟨⟨v,hv,hrow,_⟩,hB,hls,h9,hz⟩ hK
  have cl:=hls.cell (j:=0) rfl
  have c9:=h9.cell (j:=0) rfl
  have cv:=hv.cell
  gi_wp2
  rw[roundsIn_succ]
  gi_wp2
  refine wpIn_wide.2 ?_
  have hlt:w.heap.size<W.heap.size:=hls.lt
  have hlt7:w.heap.size+1<W.heap.size:=hv.lt
  have hrow1:W.ownsRow w.heap.size 252 5 v 1 (JG s):=by simpa using hrow
  have hn7:=hv.not_row (by decide) hrow1
  have hnl:=hls.not_row (by decide) hrow1
  obtain⟨g,cap,hv1⟩:=ownsRow_succ (k:=0) hrow1
  obtain⟨i0,hi,hz0,hz1,hz2⟩:=info_parts qab
  clear hrow
  subst hv1
  have hwr:IntKind.i64.wrap ((s.size:Int)+1)=s.size+1:=vI _ (by omega)
  have hw0:IntKind.i64.wrap 0=0:=by decide
  go_region_held3 (fun w'=>w'.cell? ⟨w.heap.size+1,0,none⟩=some (.slice (some ⟨g,0,none⟩) 1 cap)/\w'.cell? ⟨w.heap.size,0,none⟩=some (.string s))
   (first
     | go_keep
     |(go_split_ands
       refine⟨?_,?_⟩
       ·(rw[hgrow.cell_far _ (by simp;omega) hn7];assumption)
       ·(rw[hgrow.cell_far _ (by simp;omega) hnl];assumption)))
   ((refine step_append_lies _ (by rfl) _ _ _ (by rfl) w.heap.size 252 i0 _ 5 48 underlying248 hi hz0 hz1 hz2 rfl (by omega) (.slice (some ⟨g,0,none⟩) 1 cap) 1 (JG s) (by rfl) ((hrow1.alloc _).drew)
      ⟨W.heap.size,0,none⟩ 1 1 [.int .i64 4,.string ⟨#[]⟩,.int .i64 0,.int .i64 1,.int .i64 (s.size+1)] (by rfl) (by rfl) (World.news_of_block (cs:=#[.int .i64 4,.string ⟨#[]⟩,.int .i64 0,.int .i64 1,.int .i64 (s.size+1)]) (t:=252) (fr:=(0,0)) (heap_alloc_new W _)) (by simp[Value.oneCell'])
      (by omega) (by simp[maxLen]) (by simp) (by simp;omega) (W.heap.size+1) (by simp) ?_;intro gg cap1 w1 hown1 hgrow hat hlt2))
  clear hwr hw0
  gi_wp2
  rw[Exit.noGoto_ret]
  have hKD:w1.heap[D]?=some (.deferred (some [])):=(hgrow.block D (by simp;have:=qD hK;omega) (fun e=>by
   have hg:g=D:=by simpa[Value.ownBlock] using e.symm
   subst hg
   rcases hrow1.2 with⟨h,_⟩|⟨g',c',cur,h,_,hgb,_⟩
   ·cases h
   ·cases h;rw[hK] at hgb;cases hgb)).trans ((Below.heap_alloc _ _ D (qD hK)).trans hK)
  have hge:w.heap.size<=g:=by
   rcases hrow1.2 with⟨h,_⟩|⟨g',c',cur,h,hb,_,_⟩
   ·cases h
   ·cases h;exact hb
  have hB1:BX w w1:=((hB.alloc hB.size _).drew).grown hgrow (by simp;omega) (fun k e=>by
   have hg:g=k:=by simpa[Value.ownBlock] using e
   omega)
  have hg0:=cell_kept (qu hown1 (j:=0) rfl) (grownBy_putObj' w1 D (.deferred none)) (fun r e=>by cases e;exact⟨_,hKD,rfl⟩)
  have hg1:=cell_kept (qu hown1 (j:=1) rfl) (grownBy_putObj' w1 D (.deferred none)) (fun r e=>by cases e;exact⟨_,hKD,rfl⟩)
  refine⟨by simp,.inl ⟨_,_,rfl,run_takeDeferred hKD,?_⟩⟩
  refine⟨.tuple #[.slice (some ⟨gg,0,none⟩) 2 cap1,.int .i64 0,.int .i64 0,.int .i64 0],by simp[results,f199,go_sem],gg,cap1,rfl,hg0,hg1,?_⟩
  exact hB1.trans (belowK_b (w:=w) (vL _) w1 D _ _ (by omega) hKD rfl rfl)
 case stop=>
  rintro D c pre W _ _ h _
  exact h.elim
end
section
open Go.RowKit Go.Shelf
def words:List (List UInt8):=[[109,97,99,104,105,110,101],[114,101,103],[97,116],[99,108,97,115,115],[111,112],[116,105,101],[99,108,111,98],[97,114,103,115],[114,101,115,117,108,116],[115,97,118,101,100],[115,108,111,116,115]]
def js(s:ByteArray):Prop:=∀x,x∈words->(s.toList==x)=false
theorem qbM(s:ByteArray)(w:World)(h:js s):Calls prog 198 #[.string s] w fun e w'=>e = .returned (.bool false)/\w=w':=by
 have h0:=h [109,97,99,104,105,110,101] (by decide)
 have h1:=h [114,101,103] (by decide)
 have h2:=h [97,116] (by decide)
 have h3:=h [99,108,97,115,115] (by decide)
 have h4:=h [111,112] (by decide)
 have h5:=h [116,105,101] (by decide)
 have h6:=h [99,108,111,98] (by decide)
 have h7:=h [97,114,103,115] (by decide)
 have h8:=h [114,101,115,117,108,116] (by decide)
 have h9:=h [115,97,118,101,100] (by decide)
 have h10:=h [115,108,111,116,115] (by decide)
 clear h
 go_enter func198,ntmps198
 go_wp2
 go_ret
 exact⟨rfl,rfl⟩
theorem qcr(n:Int)(w:World)(h0:0<=n)(h1:n<=999999):Calls prog 185 #[.int .i64 n] w fun e w'=>e = .returned (.bool true)/\w=w':=by
 go_enter func185,ntmps185
 go_wp2
 go_ret
 exact⟨qq (by simp),rfl⟩
theorem qao(f:Value)(w:World):Calls prog 179 #[.slice none 0 0,f] w fun e w'=>e = .returned (.bool true)/\w=w':=by
 go_enter func179,ntmps179
 go_wp2
 refine wp_loop_rounds 1 ?_
 rw[rounds_succ]
 go_wp2
 go_ret
 exact⟨rfl,rfl⟩
theorem qdq(f:Value)(w:World):Calls prog 181 #[.slice none 0 0,f] w fun e w'=>e = .returned (.bool true)/\w=w':=by
 go_enter func181,ntmps181
 go_wp2
 refine wp_loop_rounds 1 ?_
 rw[rounds_succ]
 go_wp2
 go_ret
 exact⟨rfl,rfl⟩
theorem Ki(f:Value)(w:World):Calls prog 183 #[.slice none 0 0,f] w fun e w'=>e = .returned (.bool true)/\w=w':=by
 go_enter func183,ntmps183
 go_wp2
 refine wp_loop_rounds 1 ?_
 rw[rounds_succ]
 go_wp2
 go_ret
 exact⟨rfl,rfl⟩
theorem Jq(w:World):Calls prog 184 #[.string ⟨#[]⟩] w fun e w'=>e = .returned (.bool true)/\w=w':=by
 go_enter func184,ntmps184
 go_wp2
 go_ret
 exact⟨rfl,rfl⟩
theorem Xk(s:ByteArray)(w:World)(hE:Env w)(hN:xo s)(hW:js s):Calls prog 177 #[.string s] w fun e w'=>e = .returned (.bool true)/\BX w w':=by
 have hle:=hN.le
 have C1:=qbM s w hW
 have C2:=qdp s w hE hN
 clear hW hN hE
 go_enter func177,ntmps177
 go_wp2_with (first
  |(go_at_call 198;refine C1.mono ?_;clear C1;rintro e w' ⟨rfl,rfl⟩)
  |(go_at_call 199;refine C2.mono ?_;clear C2;rintro e w' ⟨g,c,rfl,h0,h1,hb⟩))
 go_ret
 exact⟨qq (by simp),hb⟩
end
section
open Go.RowKit Go.Shelf
attribute [local go_sem] Oper.semAt_some
theorem qcs(f:Value)(w:World):Calls prog 207 #[.slice none 0 0,.int .i64 1,f] w fun e w'=>e = .returned (.bool true)/\w=w':=by
 go_enter func207,ntmps207
 go_wp2
 refine wp_loop_rounds 1 ?_
 rw[rounds_succ]
 go_wp2
 go_ret
 exact⟨rfl,rfl⟩
theorem qdr(w:World):Calls prog 200 #[.slice none 0 0] w fun e w'=>e = .returned (.func (.func 206) #[] #[.pointer (some ⟨w.heap.size,0,none⟩)])/\w'=w.alloc (.cells #[.slice none 0 0] 22):=by
 go_enter func200,ntmps200
 go_wp2
 go_ret
 exact⟨rfl,rfl⟩
theorem qap(m B:Nat)(hm:1<=m)(Kp:World->World->Prop)(encs:Empty->Array Value)(w:World)(hB:w.cell? ⟨B,0,none⟩=some (.slice none 0 0)) :
 SeqStopsK Fence.wide m prog 206 #[.pointer (some ⟨B,0,none⟩)] encs Kp (fun ys=>ys = []) (fun _=>False) 0 w:=fun l J Jx W hW hJ _ hY h0=>by
 have hb:=(hW.cell (p:=⟨B,0,none⟩) (kW _ _ hB)).trans hB
 clear hY hJ hW hB
 refine callsIn_of_wp func206 rfl trivial ?_ rfl
 simp only[ntmps206,List.size_toArray,List.length_cons,List.length_nil,Nat.reduceAdd,Nat.reduceSub,Array.replicate_succ,Array.replicate_zero,List.push_toArray,List.append_toArray,List.nil_append,List.cons_append]
 gi_wp2_with (refine⟨trivial,?_⟩;gi_at_call 207;refine(callsIn_wide.2 (qcs _ _)).mono ?_;rintro e w' ⟨rfl,rfl⟩)
 go_end0
 exact⟨⟨_,rfl⟩,.inl ⟨[],rfl,h0⟩⟩
theorem qbk(w:World):Calls prog 178 #[.slice none 0 0] w fun e w'=>e = .returned (.bool true)/\BX w w':=by
 refine(callsIn_wide (n:=4)).1 ?_
 refine callsIn_of_wp_marks func178 rfl trivial ?_ rfl
 simp only[ntmps178,List.size_toArray,List.length_cons,List.length_nil,Nat.reduceAdd,Nat.reduceSub,Array.replicate_succ,Array.replicate_zero,List.push_toArray,List.append_toArray,List.nil_append,List.cons_append]
 gi_wp2_with (refine⟨trivial,?_⟩;gi_at_call 200;refine(callsIn_wide.2 (qdr _)).mono ?_;rintro e w' ⟨rfl,rfl⟩)
 have hr0:qd ((w.alloc (.cells #[.bool false] 4)).alloc (.cells #[.slice none 0 0] 22)) w.heap.size 4 #[.bool false]:=(qd.new _ _ _).alloc _
 have hb0:=zr (w.alloc (.cells #[.bool false] 4)) #[.slice none 0 0] 22 (j:=0) rfl
 rw[vZ] at hb0
 have hB0:BX w ((w.alloc (.cells #[.bool false] 4)).alloc (.cells #[.slice none 0 0] 22)):=((kB _ w).alloc (vL _) _).alloc (by simp) _
 refine wpIn_rangeFunc_ownF (F:=Fence.wide) rfl (by omega) (gf:=206) (lb:=#[.pointer (some ⟨w.heap.size+1,0,none⟩)]) rfl trivial (enters_of func206 (by kernel_rfl) rfl)
  (qap 3 (w.heap.size+1) (by omega) (Below w.heap.size) (fun x=>x.elim) _ hb0) belowK_t (belowK_b (by simp;omega)) (kB _ _) (fun x=>x.elim)
  (fun _ W=>qd W w.heap.size 4 #[.bool false]/\BX w W) (fun _ _ _=>False)
  (OwnFrom.and (Own.from (ja _ _ fun _=>_) _) (ownFrom_below (vL _) (by simp;omega))) (fun _ _ _ _ _ hs _ _=>hs) ⟨hr0,hB0⟩ (fun x=>x.elim) ?assign ?body ?done ?stop
 case assign=>
  intro l x
  exact x.elim
 case body=>
  intro l pre x
  exact x.elim
 case done=>
  rintro D ys W hD rfl ⟨hc,hB⟩ hK
  have c0:=hc.cell (j:=0) rfl
  have f0:=hc.frozen 0
  gi_wp2
  have hK':=(KeepsOthers.setCell W ⟨w.heap.size,0,none⟩ (.bool true)).same D _ hK rfl
  refine⟨by simp,.inl ⟨_,_,rfl,run_takeDeferred hK',?_⟩⟩
  have hc5:=cell_kept (World.cell?_setCell_same' W ⟨w.heap.size,0,none⟩ (.bool true) (by rw[c0];rfl)) (grownBy_putObj' _ D (.deferred none)) (fun r e=>by cases e;exact⟨_,hK',rfl⟩)
  refine⟨.bool true,?_,rfl,(hB.setCell (p:=⟨w.heap.size,0,none⟩) (by simp) _).trans (belowK_b (w:=w) (vL _) _ D _ _ (by simp at hD;omega) hK' rfl rfl)⟩
  simp[results,f178,go_sem,hc5]
 case stop=>
  rintro D c pre W _ _ h _
  exact h.elim
theorem qaq(s:ByteArray)(w:World)(hE:Env w)(hN:xo s)(hW:js s) :
 Calls prog 144 #[.agg #[.string s,.slice none 0 0,.slice none 0 0,.slice none 0 0,.slice none 0 0,.string ⟨#[]⟩,.slice none 0 0,.int .i64 0]] w fun e w'=>e = .returned (.bool true)/\BX w w':=by
 have C0:=Xk s (w.alloc (.cells #[.string s,.slice none 0 0,.slice none 0 0,.slice none 0 0,.slice none 0 0,.string ⟨#[]⟩,.slice none 0 0,.int .i64 0] 27)) (hE.below ((kB _ _).alloc (vL _) _)) hN hW
 clear hE hN hW
 go_enter func144,ntmps144
 go_wp2_with (first
  |(go_at_call 177;refine C0.mono ?_;clear C0;rintro e w1 ⟨rfl,hb1⟩;obtain⟨hc1,hf1⟩:=yR hb1)
  |(go_at_call 178;refine(qbk _).mono ?_;rintro e w2 ⟨rfl,hb2⟩;have hb3:=hb1.trans (hb2.mono hb1.size);obtain⟨hc2,hf2⟩:=yR hb3;clear hc1 hf1)
  |(go_at_call 179;refine(qao _ _).mono ?_;rintro e w' ⟨rfl,rfl⟩)
  |(go_at_call 181;refine(qdq _ _).mono ?_;rintro e w' ⟨rfl,rfl⟩)
  |(go_at_call 183;refine(Ki _ _).mono ?_;rintro e w' ⟨rfl,rfl⟩)
  |(go_at_call 184;refine(Jq _).mono ?_;rintro e w' ⟨rfl,rfl⟩)
  |(go_at_call 185;refine(qcr _ _ (by omega) (by omega)).mono ?_;rintro e w' ⟨rfl,rfl⟩))
 go_ret
 exact⟨rfl,((kB _ _).alloc (vL _) _).trans (hb3.mono (by simp))⟩
theorem jF(s:ByteArray)(w:World)(hE:Env w)(hN:xo s)(hW:js s):Calls prog 169 #[.string s] w fun e w'=>e = .returned (.bool true)/\BX w w':=by
 have C0:=qaq s w hE hN hW
 clear hE hN hW
 go_enter func169,ntmps169
 go_wp2_with (go_at_call 144;refine C0.mono ?_;clear C0;rintro e w1 ⟨rfl,hb1⟩)
 go_ret
 exact⟨rfl,hb1⟩
end
end Go.Proofs.YtomlgdnafeeeiaaGreatDoor
