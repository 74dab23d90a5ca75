
import Derived.Test.YtomlgdnafeeeiaaGreatDoorLyAll
import Derived.Test.YtomlgdnafeeeiaaGreatDoorPlAll
set_option maxHeartbeats 2000000
set_option maxRecDepth 100000
/-
 isName of any text: desc's,and so geom's and mdcheck's.
-/
namespace Go.Proofs.YtomlgdnafeeeiaaGreatDoor
open Proofs.Tryz
open Go.RowKit Go.Shelf
theorem qgr{s:ByteArray}{x:List UInt8}(h:(s.toList==x)=true):s=⟨x.toArray⟩:=by
 refine(Lib.bytes_beq_iff s ⟨x.toArray⟩).1 ?_
 have:(⟨x.toArray⟩:ByteArray).toList=x:=by
  rw[ByteArray.toList_eq]
 rw[this];exact h
theorem qdM(s:ByteArray)(w:World)(h:∃x,x∈words/\(s.toList==x)=true):Calls prog 198 #[.string s] w fun e w'=>e = .returned (.bool true)/\w=w':=by
 obtain⟨x,hx,hs⟩:=h
 obtain rfl:=qgr hs
 unfold words at hx
 simp only[List.mem_cons,List.not_mem_nil,or_false] at hx
 clear hs
 rcases hx with rfl|rfl|rfl|rfl|rfl|rfl|rfl|rfl|rfl|rfl|rfl
 all_goals
  go_enter func198,ntmps198
  go_wp2
  go_ret
  exact⟨rfl,rfl⟩
theorem qiJ{s:ByteArray}(h:xo s)(hw:js s):qj s=true:=by
 unfold qj
 have hd:s.data.toList.headD 0=s[0]'h.pos:=by
  have:=Zw s 0 h.pos
  rw[List.drop_zero] at this
  rw[this];rfl
 simp only[Bool.and_eq_true,decide_eq_true_eq]
 exact⟨⟨⟨⟨h.pos,h.le⟩,by rw[hd];exact h.first⟩,vV.2 h.all⟩,vV.2 fun x hx=>by rw[hw x hx];rfl⟩
theorem qaD(s:ByteArray)(w:World)(hE:Env w):Calls prog 177 #[.string s] w fun e w'=>e = .returned (.bool (qj s))/\BX w w':=by
 by_cases hB:qj s=true
 ·rw[hB]
  obtain⟨h1,h2⟩:=Qt hB
  exact Xk s w hE h1 h2
 ·have hB':qj s=false:=by simpa using hB
  rw[hB']
  by_cases hl:20<s.size
  ·have hl2:(20:Int)<s.size:=by omega
   clear hB hB' hE
   go_enter func177,ntmps177
   go_wp2_with fail
   go_ret
   exact⟨rfl,kB _ _⟩
  ·have hl2:¬ (20:Int)<s.size:=by omega
   by_cases hw:∃x,x∈words/\(s.toList==x)=true
   ·have C:=fun W=>qdM s W hw
    clear hB hB' hE hw
    go_enter func177,ntmps177
    go_wp2_with (go_at_call 198;refine(C _).mono ?_;rintro e w' ⟨rfl,rfl⟩)
    go_ret
    exact⟨rfl,kB _ _⟩
   ·have hnw:js s:=fun x hx=>by
     cases h:s.toList==x
     ·rfl
     ·exact absurd ⟨x,hx,h⟩ hw
    have hno:¬ xo s:=fun h=>hB (qiJ h hnw)
    have C1:=qbM s w hnw
    have C2:=qfc s w hE (by omega)
    clear hB hB' hE hw hnw
    go_enter func177,ntmps177
    go_wp2_with (first
     |(go_at_call 198;refine C1.mono ?_;clear C1;rintro e w' ⟨rfl,rfl⟩)
     |(go_at_call 199;refine C2.mono ?_;clear C2;rintro e w' ⟨hb,⟨l,c,x,hx,rfl⟩|⟨g,n,c,k,t,rfl,h0,h1,hk⟩⟩ <;> first|(have hx2:(x==0)=false:=(by simpa using hx))|(have n0:(0:Int)<=n:=vN _;rcases Classical.em (k=1) with rfl|hk1 <;> first|(have ht:(t.toList==s.toList)=false:=(by rw[vD];intro h;exact hno ((Lib.bytes_beq_iff t s).1 h ▸ hk rfl)))|(have hk2:(k==1)=false:=(by simpa using hk1)))))
    all_goals
     go_ret
     exact⟨qq (by simp),hb⟩
theorem qbS(s:ByteArray)(w:World)(hE:Env w) :
 Calls prog 144 #[.agg #[.string s,.slice none 0 0,.slice none 0 0,.slice none 0 0,.slice none 0 0,.string ⟨#[]⟩,.slice none 0 0,.int .i64 0]] w fun e w'=>e = .returned (.bool (qj s))/\BX w w':=by
 by_cases hB:qj s=true
 ·rw[hB]
  obtain⟨h1,h2⟩:=Qt hB
  exact qaq s w hE h1 h2
 ·have hB':qj s=false:=by simpa using hB
  have C0:=qaD s (w.alloc (.cells #[.string s,.slice none 0 0,.slice none 0 0,.slice none 0 0,.slice none 0 0,.string ⟨#[]⟩,.slice none 0 0,.int .i64 0] 27)) (hE.below (qi))
  rw[hB'] at C0 ⊢
  clear hB hB' hE
  go_enter func144,ntmps144
  go_wp2_with (go_at_call 177;refine C0.mono ?_;clear C0;rintro e w1 ⟨rfl,hb1⟩)
  go_ret
  exact⟨rfl,qi.trans (hb1.mono (by simp))⟩
theorem qaE(s:ByteArray)(w:World)(hE:Env w):Calls prog 169 #[.string s] w fun e w'=>e = .returned (.bool (qj s))/\BX w w':=by
 have C0:=qbS s w hE
 clear hE
 go_enter func169,ntmps169
 go_wp2_with (go_at_call 144;refine C0.mono ?_;clear C0;rintro e w1 ⟨rfl,hb1⟩)
 go_ret
 exact⟨rfl,hb1⟩
theorem ZF(s:ByteArray)(w:World)(hE:Env w):Calls prog 106 #[.string s] w fun e w'=>e = .returned (.bool (qj s))/\BX w w':=by
 have C0:=qbS s w hE
 clear hE
 go_enter func106,ntmps106
 go_wp2_with (go_at_call 144;refine C0.mono ?_;clear C0;rintro e w1 ⟨rfl,hb1⟩)
 go_ret
 exact⟨rfl,hb1⟩
end Go.Proofs.YtomlgdnafeeeiaaGreatDoor
