/-
  isName of any text: desc's, and so geom's and mdcheck's.
-/
import Derived.Test.YtkoloennfejaaaaGreatDoorLyAll
import Derived.Test.YtkoloennfejaaaaGreatDoorPlAll
set_option maxHeartbeats 2000000
set_option maxRecDepth 100000
namespace Go.Proofs.YtkoloennfejaaaaGreatDoor
open Go.RowKit Go.Shelf
theorem qcL{s:ByteArray}{x:List UInt8}(h:(s.toList==x)=true):s=⟨x.toArray⟩:=by
 refine(Lib.bytes_beq_iff s ⟨x.toArray⟩).1 ?_
 have:(⟨x.toArray⟩:ByteArray).toList=x:=by
  rw[ByteArray.toList_eq]
 rw[this];exact h
theorem qao(s:ByteArray)(w:World)(h:∃x,x∈words/\(s.toList==x)=true):Calls Tryz.prog 215 #[.string s] w fun e w'=>e = .returned (.bool true)/\w=w':=by
 obtain⟨x,hx,hs⟩:=h
 obtain rfl:=qcL hs
 unfold words at hx
 simp only[List.mem_cons,List.not_mem_nil,or_false] at hx
 clear hs
 rcases hx with rfl|rfl|rfl|rfl|rfl|rfl|rfl|rfl|rfl|rfl|rfl
 all_goals
  go_enter Tryz.func215,Tryz.ntmps215
  go_wp2
  go_ret
  exact⟨rfl,rfl⟩
theorem qeJ{s:ByteArray}(h:qS s)(hw:zz s):nameB s=true:=by
 unfold nameB
 have hd:s.data.toList.headD 0=s[0]'h.pos:=by
  have:=jY s 0 h.pos
  rw[List.drop_zero] at this
  rw[this];rfl
 simp only[Bool.and_eq_true,decide_eq_true_eq]
 exact⟨⟨⟨⟨h.pos,h.le⟩,by rw[hd];exact h.first⟩,List.all_eq_true.2 h.all⟩,List.all_eq_true.2 fun x hx=>by rw[hw x hx];rfl⟩
theorem XP(s:ByteArray)(w:World)(hE:Env w):Calls Tryz.prog 194 #[.string s] w fun e w'=>e = .returned (.bool (nameB s))/\Below w.heap.size w w':=by
 by_cases hB:nameB s=true
 ·rw[hB]
  obtain⟨h1,h2⟩:=jc hB
  exact yR s w hE h1 h2
 ·have hB':nameB s=false:=by simpa using hB
  rw[hB']
  by_cases hl:20<s.size
  ·have hl2:(20:Int)<s.size:=by omega
   clear hB hB' hE
   go_enter Tryz.func194,Tryz.ntmps194
   go_wp2_with fail
   go_ret
   exact⟨rfl,Below.refl _ _⟩
  ·have hl2:¬ (20:Int)<s.size:=by omega
   by_cases hw:∃x,x∈words/\(s.toList==x)=true
   ·have C:=fun W=>qao s W hw
    clear hB hB' hE hw
    go_enter Tryz.func194,Tryz.ntmps194
    go_wp2_with (go_at_call 215;refine(C _).mono ?_;rintro e w' ⟨rfl,rfl⟩)
    go_ret
    exact⟨rfl,Below.refl _ _⟩
   ·have hnw:zz s:=fun x hx=>by
     cases h:s.toList==x
     ·rfl
     ·exact absurd ⟨x,hx,h⟩ hw
    have hno:¬ qS s:=fun h=>hB (qeJ h hnw)
    have C1:=JS s w hnw
    have C2:=qbx s w hE (by omega)
    clear hB hB' hE hw hnw
    go_enter Tryz.func194,Tryz.ntmps194
    go_wp2_with (first
     |(go_at_call 215;refine C1.mono ?_;clear C1;rintro e w' ⟨rfl,rfl⟩)
     |(go_at_call 216;refine C2.mono ?_;clear C2;rintro e w' ⟨hb,⟨l,c,x,hx,rfl⟩|⟨g,n,c,k,t,rfl,h0,h1,hk⟩⟩ <;> first|(have hx2:(x==0)=false:=(by simpa using hx))|(have n0:(0:Int)<=n:=Int.natCast_nonneg _;rcases Classical.em (k=1) with rfl|hk1 <;> first|(have ht:(t.toList==s.toList)=false:=(by rw[Bool.eq_false_iff];intro h;exact hno ((Lib.bytes_beq_iff t s).1 h ▸ hk rfl)))|(have hk2:(k==1)=false:=(by simpa using hk1)))))
    all_goals
     go_ret
     exact⟨qg (by simp),hb⟩
theorem JY(s:ByteArray)(w:World)(hE:Env w) :
 Calls Tryz.prog 163 #[.agg #[.string s,.slice none 0 0,.slice none 0 0,.slice none 0 0,.slice none 0 0,.string ⟨#[]⟩,.slice none 0 0,.int .i64 0]] w fun e w'=>e = .returned (.bool (nameB s))/\Below w.heap.size w w':=by
 by_cases hB:nameB s=true
 ·rw[hB]
  obtain⟨h1,h2⟩:=jc hB
  exact XE s w hE h1 h2
 ·have hB':nameB s=false:=by simpa using hB
  have C0:=XP s (w.alloc (.cells #[.string s,.slice none 0 0,.slice none 0 0,.slice none 0 0,.slice none 0 0,.string ⟨#[]⟩,.slice none 0 0,.int .i64 0] 27)) (hE.below (qe))
  rw[hB'] at C0 ⊢
  clear hB hB' hE
  go_enter Tryz.func163,Tryz.ntmps163
  go_wp2_with (go_at_call 194;refine C0.mono ?_;clear C0;rintro e w1 ⟨rfl,hb1⟩)
  go_ret
  exact⟨rfl,qe.trans (hb1.mono (by simp))⟩
theorem XQ(s:ByteArray)(w:World)(hE:Env w):Calls Tryz.prog 187 #[.string s] w fun e w'=>e = .returned (.bool (nameB s))/\Below w.heap.size w w':=by
 have C0:=JY s w hE
 clear hE
 go_enter Tryz.func187,Tryz.ntmps187
 go_wp2_with (go_at_call 163;refine C0.mono ?_;clear C0;rintro e w1 ⟨rfl,hb1⟩)
 go_ret
 exact⟨rfl,hb1⟩
theorem yk(s:ByteArray)(w:World)(hE:Env w):Calls Tryz.prog 133 #[.string s] w fun e w'=>e = .returned (.bool (nameB s))/\Below w.heap.size w w':=by
 have C0:=JY s w hE
 clear hE
 go_enter Tryz.func133,Tryz.ntmps133
 go_wp2_with (go_at_call 163;refine C0.mono ?_;clear C0;rintro e w1 ⟨rfl,hb1⟩)
 go_ret
 exact⟨rfl,hb1⟩
end Go.Proofs.YtkoloennfejaaaaGreatDoor
