/-
  The registers of the document's example: where they lie; that Places tells them.
-/
import Derived.Test.YtkoloennfejaaaaGreatDoorGeoTwo
set_option maxHeartbeats 1000000
set_option maxRecDepth 100000
namespace Go.Proofs.YtkoloennfejaaaaGreatDoor
open Go.RowKit Go.Shelf
def qid(n:Nat):RegL:=
 .cons ⟨#[114,97,120]⟩ 64 0 (.slice (some ⟨n+2,0,none⟩) 1 1)
  (.cons ⟨#[101,97,120]⟩ 32 0 (.slice (some ⟨n+1,0,none⟩) 1 1)
    (.cons ⟨#[97,120]⟩ 16 0 (.slice (some ⟨n,0,none⟩) 2 2)
      (.cons ⟨#[97,108]⟩ 8 0 (.slice none 0 0) .nil (.cons ⟨#[97,104]⟩ 8 8 (.slice none 0 0) .nil .nil)) .nil) .nil) .nil
structure Zw(X:Nat)(W:World):Prop where
 c0:Cells W X 68 #[.string ⟨#[97,108]⟩,.int .i64 8,.int .i64 0,.slice none 0 0,.string ⟨#[97,104]⟩,.int .i64 8,.int .i64 8,.slice none 0 0]
 c1:Cells W (X+1) 68 #[.string ⟨#[97,120]⟩,.int .i64 16,.int .i64 0,.slice (some ⟨X,0,none⟩) 2 2]
 c2:Cells W (X+2) 68 #[.string ⟨#[101,97,120]⟩,.int .i64 32,.int .i64 0,.slice (some ⟨X+1,0,none⟩) 1 1]
 c3:Cells W (X+3) 68 #[.string ⟨#[114,97,120]⟩,.int .i64 64,.int .i64 0,.slice (some ⟨X+1+1,0,none⟩) 1 1]
theorem Zw.subs{X:Nat}{W:World}(h:Zw X W):qu W.heap.size W (.slice (some ⟨X+2,0,none⟩) 1 1)
 (.cons ⟨#[101,97,120]⟩ 32 0 (.slice (some ⟨X+1,0,none⟩) 1 1) (.cons ⟨#[97,120]⟩ 16 0 (.slice (some ⟨X,0,none⟩) 2 2) (.cons ⟨#[97,108]⟩ 8 0 (.slice none 0 0) .nil (.cons ⟨#[97,104]⟩ 8 8 (.slice none 0 0) .nil .nil)) .nil) .nil):=
 .inr ⟨X+2,0,1,rfl,Nat.le_refl _,by simp[RegL.length],
  h.c2.lt,⟨h.c2.cell rfl,h.c2.cell rfl,h.c2.cell rfl,h.c2.cell rfl⟩,trivial,.inr ⟨X+1,0,1,rfl,Nat.le_refl _,by simp[RegL.length],
  h.c1.lt,⟨h.c1.cell rfl,h.c1.cell rfl,h.c1.cell rfl,h.c1.cell rfl⟩,trivial,.inr ⟨X,0,2,rfl,Nat.le_refl _,by simp[RegL.length],
  h.c0.lt,⟨h.c0.cell rfl,h.c0.cell rfl,h.c0.cell rfl,h.c0.cell rfl⟩,⟨h.c0.lt,⟨h.c0.cell rfl,h.c0.cell rfl,h.c0.cell rfl,h.c0.cell rfl⟩,trivial,.inl ⟨⟨none,rfl⟩,rfl⟩⟩,.inl ⟨⟨none,rfl⟩,rfl⟩⟩⟩⟩
theorem qef(w:World):Calls Tryz.prog 40 #[] w fun e w'=>e = .returned (.slice (some ⟨w.heap.size+3,0,none⟩) 1 1)/\Below w.heap.size w w'/\Zw w.heap.size w':=by
 go_enter Tryz.func40,Tryz.ntmps40
 go_wp2
 go_ret
 have c0:Cells ((((w.alloc (.cells #[.string ⟨#[97,108]⟩,.int .i64 8,.int .i64 0,.slice none 0 0,.string ⟨#[97,104]⟩,.int .i64 8,.int .i64 8,.slice none 0 0] 68)).alloc (.cells #[.string ⟨#[97,120]⟩,.int .i64 16,.int .i64 0,.slice (some ⟨w.heap.size,0,none⟩) 2 2] 68)).alloc (.cells #[.string ⟨#[101,97,120]⟩,.int .i64 32,.int .i64 0,.slice (some ⟨w.heap.size+1,0,none⟩) 1 1] 68)).alloc (.cells #[.string ⟨#[114,97,120]⟩,.int .i64 64,.int .i64 0,.slice (some ⟨w.heap.size+1+1,0,none⟩) 1 1] 68)) w.heap.size 68 #[.string ⟨#[97,108]⟩,.int .i64 8,.int .i64 0,.slice none 0 0,.string ⟨#[97,104]⟩,.int .i64 8,.int .i64 8,.slice none 0 0]:=(((Cells.new _ _ _).alloc _).alloc _).alloc _
 have c1:Cells ((((w.alloc (.cells #[.string ⟨#[97,108]⟩,.int .i64 8,.int .i64 0,.slice none 0 0,.string ⟨#[97,104]⟩,.int .i64 8,.int .i64 8,.slice none 0 0] 68)).alloc (.cells #[.string ⟨#[97,120]⟩,.int .i64 16,.int .i64 0,.slice (some ⟨w.heap.size,0,none⟩) 2 2] 68)).alloc (.cells #[.string ⟨#[101,97,120]⟩,.int .i64 32,.int .i64 0,.slice (some ⟨w.heap.size+1,0,none⟩) 1 1] 68)).alloc (.cells #[.string ⟨#[114,97,120]⟩,.int .i64 64,.int .i64 0,.slice (some ⟨w.heap.size+1+1,0,none⟩) 1 1] 68)) (w.heap.size+1) 68 #[.string ⟨#[97,120]⟩,.int .i64 16,.int .i64 0,.slice (some ⟨w.heap.size,0,none⟩) 2 2]:=by
  have:=Cells.new (w.alloc (.cells #[.string ⟨#[97,108]⟩,.int .i64 8,.int .i64 0,.slice none 0 0,.string ⟨#[97,104]⟩,.int .i64 8,.int .i64 8,.slice none 0 0] 68)) 68 #[.string ⟨#[97,120]⟩,.int .i64 16,.int .i64 0,.slice (some ⟨w.heap.size,0,none⟩) 2 2]
  rw[World.size_alloc] at this;exact(this.alloc _).alloc _
 have c2:Cells ((((w.alloc (.cells #[.string ⟨#[97,108]⟩,.int .i64 8,.int .i64 0,.slice none 0 0,.string ⟨#[97,104]⟩,.int .i64 8,.int .i64 8,.slice none 0 0] 68)).alloc (.cells #[.string ⟨#[97,120]⟩,.int .i64 16,.int .i64 0,.slice (some ⟨w.heap.size,0,none⟩) 2 2] 68)).alloc (.cells #[.string ⟨#[101,97,120]⟩,.int .i64 32,.int .i64 0,.slice (some ⟨w.heap.size+1,0,none⟩) 1 1] 68)).alloc (.cells #[.string ⟨#[114,97,120]⟩,.int .i64 64,.int .i64 0,.slice (some ⟨w.heap.size+1+1,0,none⟩) 1 1] 68)) (w.heap.size+2) 68 #[.string ⟨#[101,97,120]⟩,.int .i64 32,.int .i64 0,.slice (some ⟨w.heap.size+1,0,none⟩) 1 1]:=by
  have:=Cells.new ((w.alloc (.cells #[.string ⟨#[97,108]⟩,.int .i64 8,.int .i64 0,.slice none 0 0,.string ⟨#[97,104]⟩,.int .i64 8,.int .i64 8,.slice none 0 0] 68)).alloc (.cells #[.string ⟨#[97,120]⟩,.int .i64 16,.int .i64 0,.slice (some ⟨w.heap.size,0,none⟩) 2 2] 68)) 68 #[.string ⟨#[101,97,120]⟩,.int .i64 32,.int .i64 0,.slice (some ⟨w.heap.size+1,0,none⟩) 1 1]
  simp only[World.size_alloc] at this;exact this.alloc _
 have c3:Cells ((((w.alloc (.cells #[.string ⟨#[97,108]⟩,.int .i64 8,.int .i64 0,.slice none 0 0,.string ⟨#[97,104]⟩,.int .i64 8,.int .i64 8,.slice none 0 0] 68)).alloc (.cells #[.string ⟨#[97,120]⟩,.int .i64 16,.int .i64 0,.slice (some ⟨w.heap.size,0,none⟩) 2 2] 68)).alloc (.cells #[.string ⟨#[101,97,120]⟩,.int .i64 32,.int .i64 0,.slice (some ⟨w.heap.size+1,0,none⟩) 1 1] 68)).alloc (.cells #[.string ⟨#[114,97,120]⟩,.int .i64 64,.int .i64 0,.slice (some ⟨w.heap.size+1+1,0,none⟩) 1 1] 68)) (w.heap.size+3) 68 #[.string ⟨#[114,97,120]⟩,.int .i64 64,.int .i64 0,.slice (some ⟨w.heap.size+1+1,0,none⟩) 1 1]:=by
  have:=Cells.new (((w.alloc (.cells #[.string ⟨#[97,108]⟩,.int .i64 8,.int .i64 0,.slice none 0 0,.string ⟨#[97,104]⟩,.int .i64 8,.int .i64 8,.slice none 0 0] 68)).alloc (.cells #[.string ⟨#[97,120]⟩,.int .i64 16,.int .i64 0,.slice (some ⟨w.heap.size,0,none⟩) 2 2] 68)).alloc (.cells #[.string ⟨#[101,97,120]⟩,.int .i64 32,.int .i64 0,.slice (some ⟨w.heap.size+1,0,none⟩) 1 1] 68)) 68 #[.string ⟨#[114,97,120]⟩,.int .i64 64,.int .i64 0,.slice (some ⟨w.heap.size+1+1,0,none⟩) 1 1]
  simp only[World.size_alloc] at this;exact this
 refine⟨rfl,((qe.alloc (by simp) _).alloc (by simp;omega) _).alloc (by simp;omega) _,⟨c0,c1,c2,c3⟩⟩
end Go.Proofs.YtkoloennfejaaaaGreatDoor
