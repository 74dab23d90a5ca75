
import Derived.Test.YtomlgdnafeeeiaaGreatDoorGeoTwo
set_option maxHeartbeats 1000000
set_option maxRecDepth 100000
/-
 The registers of the document's example: where they lie;that Places tells them.
-/
namespace Go.Proofs.YtomlgdnafeeeiaaGreatDoor
open Proofs.Tryz
open Go.RowKit Go.Shelf
def qlW(n:Nat):qg:=
 .cons ⟨#[114,97,120]⟩ 64 0 (.slice (some ⟨n+2,0,none⟩) 1 1)
  (.cons ⟨#[101,97,120]⟩ 32 0 (.slice (some ⟨n+1,0,none⟩) 1 1)
    (.cons ⟨#[97,120]⟩ 16 0 (.slice (some ⟨n,0,none⟩) 2 2)
      (.cons ⟨#[97,108]⟩ 8 0 (.slice none 0 0) .nil (.cons ⟨#[97,104]⟩ 8 8 (.slice none 0 0) .nil .nil)) .nil) .nil) .nil
structure Yf(X:Nat)(W:World):Prop where
 c0:qd W X 40 #[.string ⟨#[97,108]⟩,.int .i64 8,.int .i64 0,.slice none 0 0,.string ⟨#[97,104]⟩,.int .i64 8,.int .i64 8,.slice none 0 0]
 c1:qd W (X+1) 40 #[.string ⟨#[97,120]⟩,.int .i64 16,.int .i64 0,.slice (some ⟨X,0,none⟩) 2 2]
 c2:qd W (X+2) 40 #[.string ⟨#[101,97,120]⟩,.int .i64 32,.int .i64 0,.slice (some ⟨X+1,0,none⟩) 1 1]
 c3:qd W (X+3) 40 #[.string ⟨#[114,97,120]⟩,.int .i64 64,.int .i64 0,.slice (some ⟨X+1+1,0,none⟩) 1 1]
theorem Yf.subs{X:Nat}{W:World}(h:Yf X W):qM W.heap.size W (.slice (some ⟨X+2,0,none⟩) 1 1)
 (.cons ⟨#[101,97,120]⟩ 32 0 (.slice (some ⟨X+1,0,none⟩) 1 1) (.cons ⟨#[97,120]⟩ 16 0 (.slice (some ⟨X,0,none⟩) 2 2) (.cons ⟨#[97,108]⟩ 8 0 (.slice none 0 0) .nil (.cons ⟨#[97,104]⟩ 8 8 (.slice none 0 0) .nil .nil)) .nil) .nil):=
 .inr ⟨X+2,0,1,rfl,vL _,by simp[qg.length],
  h.c2.lt,⟨h.c2.cell rfl,h.c2.cell rfl,h.c2.cell rfl,h.c2.cell rfl⟩,trivial,.inr ⟨X+1,0,1,rfl,vL _,by simp[qg.length],
  h.c1.lt,⟨h.c1.cell rfl,h.c1.cell rfl,h.c1.cell rfl,h.c1.cell rfl⟩,trivial,.inr ⟨X,0,2,rfl,vL _,by simp[qg.length],
  h.c0.lt,⟨h.c0.cell rfl,h.c0.cell rfl,h.c0.cell rfl,h.c0.cell rfl⟩,⟨h.c0.lt,⟨h.c0.cell rfl,h.c0.cell rfl,h.c0.cell rfl,h.c0.cell rfl⟩,trivial,.inl ⟨⟨none,rfl⟩,rfl⟩⟩,.inl ⟨⟨none,rfl⟩,rfl⟩⟩⟩⟩
theorem qhZ(w:World):Calls prog 14 #[] w fun e w'=>e = .returned (.slice (some ⟨w.heap.size+3,0,none⟩) 1 1)/\BX w w'/\Yf w.heap.size w':=by
 go_enter func14,ntmps14
 go_wp2
 go_ret
 have c0:qd ((((w.alloc (.cells #[.string ⟨#[97,108]⟩,.int .i64 8,.int .i64 0,.slice none 0 0,.string ⟨#[97,104]⟩,.int .i64 8,.int .i64 8,.slice none 0 0] 40)).alloc (.cells #[.string ⟨#[97,120]⟩,.int .i64 16,.int .i64 0,.slice (some ⟨w.heap.size,0,none⟩) 2 2] 40)).alloc (.cells #[.string ⟨#[101,97,120]⟩,.int .i64 32,.int .i64 0,.slice (some ⟨w.heap.size+1,0,none⟩) 1 1] 40)).alloc (.cells #[.string ⟨#[114,97,120]⟩,.int .i64 64,.int .i64 0,.slice (some ⟨w.heap.size+1+1,0,none⟩) 1 1] 40)) w.heap.size 40 #[.string ⟨#[97,108]⟩,.int .i64 8,.int .i64 0,.slice none 0 0,.string ⟨#[97,104]⟩,.int .i64 8,.int .i64 8,.slice none 0 0]:=(((qd.new _ _ _).alloc _).alloc _).alloc _
 have c1:qd ((((w.alloc (.cells #[.string ⟨#[97,108]⟩,.int .i64 8,.int .i64 0,.slice none 0 0,.string ⟨#[97,104]⟩,.int .i64 8,.int .i64 8,.slice none 0 0] 40)).alloc (.cells #[.string ⟨#[97,120]⟩,.int .i64 16,.int .i64 0,.slice (some ⟨w.heap.size,0,none⟩) 2 2] 40)).alloc (.cells #[.string ⟨#[101,97,120]⟩,.int .i64 32,.int .i64 0,.slice (some ⟨w.heap.size+1,0,none⟩) 1 1] 40)).alloc (.cells #[.string ⟨#[114,97,120]⟩,.int .i64 64,.int .i64 0,.slice (some ⟨w.heap.size+1+1,0,none⟩) 1 1] 40)) (w.heap.size+1) 40 #[.string ⟨#[97,120]⟩,.int .i64 16,.int .i64 0,.slice (some ⟨w.heap.size,0,none⟩) 2 2]:=by
  have:=qd.new (w.alloc (.cells #[.string ⟨#[97,108]⟩,.int .i64 8,.int .i64 0,.slice none 0 0,.string ⟨#[97,104]⟩,.int .i64 8,.int .i64 8,.slice none 0 0] 40)) 40 #[.string ⟨#[97,120]⟩,.int .i64 16,.int .i64 0,.slice (some ⟨w.heap.size,0,none⟩) 2 2]
  rw[vZ] at this;exact(this.alloc _).alloc _
 have c2:qd ((((w.alloc (.cells #[.string ⟨#[97,108]⟩,.int .i64 8,.int .i64 0,.slice none 0 0,.string ⟨#[97,104]⟩,.int .i64 8,.int .i64 8,.slice none 0 0] 40)).alloc (.cells #[.string ⟨#[97,120]⟩,.int .i64 16,.int .i64 0,.slice (some ⟨w.heap.size,0,none⟩) 2 2] 40)).alloc (.cells #[.string ⟨#[101,97,120]⟩,.int .i64 32,.int .i64 0,.slice (some ⟨w.heap.size+1,0,none⟩) 1 1] 40)).alloc (.cells #[.string ⟨#[114,97,120]⟩,.int .i64 64,.int .i64 0,.slice (some ⟨w.heap.size+1+1,0,none⟩) 1 1] 40)) (w.heap.size+2) 40 #[.string ⟨#[101,97,120]⟩,.int .i64 32,.int .i64 0,.slice (some ⟨w.heap.size+1,0,none⟩) 1 1]:=by
  have:=qd.new ((w.alloc (.cells #[.string ⟨#[97,108]⟩,.int .i64 8,.int .i64 0,.slice none 0 0,.string ⟨#[97,104]⟩,.int .i64 8,.int .i64 8,.slice none 0 0] 40)).alloc (.cells #[.string ⟨#[97,120]⟩,.int .i64 16,.int .i64 0,.slice (some ⟨w.heap.size,0,none⟩) 2 2] 40)) 40 #[.string ⟨#[101,97,120]⟩,.int .i64 32,.int .i64 0,.slice (some ⟨w.heap.size+1,0,none⟩) 1 1]
  simp only[vZ] at this;exact this.alloc _
 have c3:qd ((((w.alloc (.cells #[.string ⟨#[97,108]⟩,.int .i64 8,.int .i64 0,.slice none 0 0,.string ⟨#[97,104]⟩,.int .i64 8,.int .i64 8,.slice none 0 0] 40)).alloc (.cells #[.string ⟨#[97,120]⟩,.int .i64 16,.int .i64 0,.slice (some ⟨w.heap.size,0,none⟩) 2 2] 40)).alloc (.cells #[.string ⟨#[101,97,120]⟩,.int .i64 32,.int .i64 0,.slice (some ⟨w.heap.size+1,0,none⟩) 1 1] 40)).alloc (.cells #[.string ⟨#[114,97,120]⟩,.int .i64 64,.int .i64 0,.slice (some ⟨w.heap.size+1+1,0,none⟩) 1 1] 40)) (w.heap.size+3) 40 #[.string ⟨#[114,97,120]⟩,.int .i64 64,.int .i64 0,.slice (some ⟨w.heap.size+1+1,0,none⟩) 1 1]:=by
  have:=qd.new (((w.alloc (.cells #[.string ⟨#[97,108]⟩,.int .i64 8,.int .i64 0,.slice none 0 0,.string ⟨#[97,104]⟩,.int .i64 8,.int .i64 8,.slice none 0 0] 40)).alloc (.cells #[.string ⟨#[97,120]⟩,.int .i64 16,.int .i64 0,.slice (some ⟨w.heap.size,0,none⟩) 2 2] 40)).alloc (.cells #[.string ⟨#[101,97,120]⟩,.int .i64 32,.int .i64 0,.slice (some ⟨w.heap.size+1,0,none⟩) 1 1] 40)) 40 #[.string ⟨#[114,97,120]⟩,.int .i64 64,.int .i64 0,.slice (some ⟨w.heap.size+1+1,0,none⟩) 1 1]
  simp only[vZ] at this;exact this
 refine⟨rfl,((qi.alloc (by simp) _).alloc (by simp;omega) _).alloc (by simp;omega) _,⟨c0,c1,c2,c3⟩⟩
end Go.Proofs.YtomlgdnafeeeiaaGreatDoor
