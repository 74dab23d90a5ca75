/-
  The reference's Saved, Within, Survives, Roots.
-/
import Derived.Test.YtkoloennfejaaaaGreatDoorRefTwo
import Derived.Test.YtkoloennfejaaaaGreatDoorTcIP
import Derived.Deep.RegionHeld3
set_option maxHeartbeats 800000
namespace Go.Proofs.YtkoloennfejaaaaGreatDoor
open Go.RowKit
theorem qfR(T:Nat)(t:TV)(d:MachD)(ns:List ByteArray)(ps:List Plc)(cls:List (List Int))(w:World)(h:TabOk w T t d ns ps cls) :
 Calls Tryz.prog 28 #[.pointer (some ⟨T,0,none⟩)] w (zS w (listS ns d.saved)):=by
 have K:=Xw T t ns t.m.saved d.saved w h.tab h.names h.nbig h.saved h.sb
 have c3:=Cells.cell h.tab (j:=6) (v:=.slice t.m.saved.a t.m.saved.n t.m.saved.c) rfl
 clear h
 go_enter Tryz.func28,Tryz.ntmps28
 go_wp2_with (go_at_call 54;refine K.mono ?_;clear K;rintro e W1 ⟨s,rfl,hr,hb⟩;replace hr:=Lib.hid hr)
 go_ret
 exact⟨s,rfl,hr.out,hb⟩
end Go.Proofs.YtkoloennfejaaaaGreatDoor
