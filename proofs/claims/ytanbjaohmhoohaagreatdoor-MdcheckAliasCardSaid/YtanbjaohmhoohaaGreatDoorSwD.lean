/-
  MdcheckSmall: one thing is changed in memory; what Check answers then.
-/
import Derived.Test.YtanbjaohmhoohaaGreatDoorSwC
namespace Go.Proofs.YtanbjaohmhoohaaGreatDoor
open Go.RowKit

/-- A plain machine's registers, as names and widths. -/
def fullL (n : Nat) : List (ByteArray × Int) := (List.range n).map fun j => (sname j, 8)
theorem fullL_cells (n : Nat) : pCells (fullL n) = sCells n := by
  unfold pCells fullL sCells
  rw [List.flatMap_map]; rfl
theorem fullL_get {n k : Nat} (h : k < n) : (fullL n)[k]? = some (sname k, 8) := by simp [fullL, h]
theorem fullL_len (n : Nat) : (fullL n).length = n := by simp [fullL]
theorem fullL_mem {n : Nat} (hn : n ≤ 64) : ∀ q, q ∈ fullL n → (IsName q.1 ∧ NotWord q.1) ∧ 1 ≤ q.2 ∧ q.2 ≤ 64 := fun q hq => by
  obtain ⟨j, hj, rfl⟩ := List.mem_map.1 hq
  have := List.mem_range.1 hj
  exact ⟨sname_ok j (by omega), by dsimp only; decide, by dsimp only; decide⟩
theorem fullL_take {n k : Nat} (h : k ≤ n) : (fullL n).take k = fullL k := by
  unfold fullL
  rw [← List.map_take, List.take_range, Nat.min_eq_left h]
theorem fullL_names (n : Nat) : (fullL n).map (·.1) = sNames n := by
  unfold fullL sNames
  rw [List.map_map]; rfl
theorem pCells_setW : ∀ (l : List (ByteArray × Int)) (k : Nat) (nm : ByteArray) (wd x : Int), l[k]? = some (nm, wd) → (pCells l).set (k * 4 + 1) (.int .i64 x) = pCells (l.set k (nm, x))
  | [], _, _, _, _, h => by simp at h
  | p :: l, 0, nm, wd, x, h => by
    obtain rfl : p = (nm, wd) := by simpa using h
    rfl
  | p :: l, k + 1, nm, wd, x, h => by
    rw [List.set_cons_succ, pCells_cons, pCells_cons, ← pCells_setW l k nm wd x (by simpa using h)]
    rw [List.set_append_right _ _ (by simp [pCell]; omega)]
    congr 2
    simp [pCell]; omega
theorem pCells_setN : ∀ (l : List (ByteArray × Int)) (k : Nat) (nm s : ByteArray) (wd : Int), l[k]? = some (nm, wd) → (pCells l).set (k * 4) (.string s) = pCells (l.set k (s, wd))
  | [], _, _, _, _, h => by simp at h
  | p :: l, 0, nm, s, wd, h => by
    obtain rfl : p = (nm, wd) := by simpa using h
    rfl
  | p :: l, k + 1, nm, s, wd, h => by
    rw [List.set_cons_succ, pCells_cons, pCells_cons, ← pCells_setN l k nm s wd (by simpa using h)]
    rw [List.set_append_right _ _ (by simp [pCell]; omega)]
    congr 2
    simp [pCell]; omega
theorem sname_new {n k : Nat} (hn : n ≤ 64) (hk : k < n) : sname k ∉ sNames k := by
  have h := sNames_nodup (k + 1) (by omega)
  rw [sNames_succ, List.nodup_append] at h
  exact fun hm => h.2.2 _ hm (sname k) (by simp) rfl

section
variable {w W : World} {B N n : Nat} {v u : SlV}
theorem SBase.cls (H : SBase w B N n v u W) : ClassesAt W ⟨some ⟨N, 0, none⟩, 1, 1⟩ [clG n] := clsAt_one (Nat.le_refl _) (H.k.cell rfl) (H.k.cell rfl) (strsRow H.names (by rw [sNames_length]))
theorem SBase.ops (H : SBase w B N n v u W) : OpsAt W ⟨some ⟨N + 1 + 1 + 1 + 1 + 1, 0, none⟩, 3, 3⟩ [opAdd 0, opNot, opDiv] :=
  opsAt3 (ua := ⟨some ⟨N + 1 + 1, 0, none⟩, 2, 2⟩) (ub := ⟨some ⟨N + 1 + 1 + 1, 0, none⟩, 1, 1⟩) (uc := ⟨some ⟨N + 1 + 1 + 1 + 1, 0, none⟩, 2, 2⟩) (ka := ⟨none, 0, 0⟩) (kb := ⟨none, 0, 0⟩) (kc := ⟨none, 0, 0⟩) H.o (opersTwo H.u0) (opersOne H.u1) (opersTwo H.u2) (strsNil W) (strsNil W) (strsNil W)
theorem SBase.args (H : SBase w B N n v u W) : StrsAt W ⟨some ⟨N + 1 + 1 + 1 + 1 + 1 + 1, 0, none⟩, 1, 1⟩ [nmR] := strsCells H.a rfl rfl

theorem sw_def (H : SBase w B N n v u W) (hE : Env w) (h3 : 3 ≤ n) (hn : n ≤ 60) : ChkRel w B 0 W :=
  chk_pieces (d := smD n 0) (smMV v N) H.below hE (by omega) (by omega) H.m H.regs rfl rfl rfl H.cls H.ops H.args (strsNil W) (clsNice_one (by omega) _) (opsNice_std (by omega) (sNames_ne (by omega))) (by rw [check_g (by omega) (by omega) (by omega)]; exact if_pos (by omega))

theorem sw_0 (H : SBase w B N n v u W) : ChkRel w B 5 (W.setCell ⟨B, 0, none⟩ (.string ⟨#[114, 101, 103]⟩)) :=
  ⟨H.below.setCell (p := ⟨B, 0, none⟩) H.hB _, { smMV v N with name := ⟨#[114, 101, 103]⟩ }, H.m.set (j := 0) _, check_word (.inr rfl)⟩

/-- Places of a row of registers that is wrong. -/
theorem fell_row {mv : MV} {g c base : Nat} {x : Int} (l A Bl : List (ByteArray × Int)) (p : ByteArray × Int) (hx0 : x ≠ 0) (hE : Env W) (hA : EnvA W) (hnm : mv.name = ⟨#[109]⟩) (hv : mv.regs = ⟨some ⟨g, 0, none⟩, n, c⟩) (hn : n ≤ 64)
    (hr : W.ownsRow base 44 4 (.slice (some ⟨g, 0, none⟩) n c) n (pCells l)) (hl : l = A ++ p :: Bl) (hlen : l.length = n) (hs : ∀ q, q ∈ A → (IsName q.1 ∧ NotWord q.1) ∧ 1 ≤ q.2 ∧ q.2 ≤ 64) (hnd : (A.map (·.1)).Nodup) (hp : IsName p.1 ∧ NotWord p.1)
    (hx : (x = 5 ∧ p.1 ∈ A.map (·.1)) ∨ (x = 6 ∧ p.1 ∉ A.map (·.1) ∧ p.2 < 1)) :
    Calls Tryz.prog 11 #[mv.val] W fun e w' => e = .returned (.int .i64 x) ∧ Below W.heap.size W w' := by
  refine check_early true x hx0 (fun V hb => by rw [hnm]; exact mdIsName_yes _ V (hE.below hb) nmM_ok.1 nmM_ok.2) (fun h => absurd h (by decide)) fun _ V hb => ?_
  have hr := ownsRow_below hr hb
  rw [hv]
  have hgl : g < V.heap.size := by
    obtain ⟨_, cur, hcur⟩ := ownsRow_block hr rfl
    exact hcur.lt
  subst hl
  exact places_pL A Bl p x g c n V (hE.below hb) (hA.below hb) hgl (by rw [← hlen]; simp) (by omega) (fun j y hj => ownsRow_cell hr hj) hs hnd hp hx

theorem sw_1 {g c k : Nat} (H : SBase w B N n ⟨some ⟨g, 0, none⟩, n, c⟩ u W) (hE : Env w) (hA : EnvA w) (hn : n ≤ 60) (hk : k < n) : ChkRel w B 6 (W.setCell ⟨g, k * 4 + 1, none⟩ (.int .i64 0)) := by
  have hr := H.regs
  dsimp only at hr
  obtain ⟨hs, hg⟩ := hr.stored (k * 4 + 1) (.int .i64 0)
  have K : KeepsT 44 W _ := KeepsT.of_grown hr hg
  have hgb : w.heap.size ≤ g := (ownsRow_block hr rfl).1
  have hb := H.below.setCell (p := ⟨g, k * 4 + 1, none⟩) hgb (.int .i64 0)
  rw [← fullL_cells, pCells_setW _ k (sname k) 8 0 (fullL_get hk), List.set_eq_take_append_cons_drop, if_pos (by rw [fullL_len]; exact hk), fullL_take (by omega)] at hs
  exact ⟨hb, smMV ⟨some ⟨g, 0, none⟩, n, c⟩ N, K.block _ _ _ (by decide) H.m, fell_row _ (fullL k) _ (sname k, 0) (by decide) (hE.below hb) (hA.below hb) rfl rfl (by omega) hs rfl (by
    have := fullL_len n
    simp [fullL_len]; omega) (fullL_mem (by omega)) (by rw [fullL_names]; exact sNames_nodup k (by omega)) (sname_ok k (by omega)) (.inr ⟨rfl, by rw [fullL_names]; exact sname_new (n := n) (by omega) hk, show (0 : Int) < 1 by decide⟩)⟩

theorem sw_2 {g c k j : Nat} (H : SBase w B N n ⟨some ⟨g, 0, none⟩, n, c⟩ u W) (hE : Env w) (hA : EnvA w) (h3 : 3 ≤ n) (hn : n ≤ 60) (hk : k < n) (hj : (k + 1 < n ∧ j = k + 1) ∨ (k + 1 = n ∧ j = 0)) : ChkRel w B 5 (W.setCell ⟨g, k * 4, none⟩ (.string (sname j))) := by
  have hr := H.regs
  dsimp only at hr
  obtain ⟨hs, hg⟩ := hr.stored (k * 4) (.string (sname j))
  have K : KeepsT 44 W _ := KeepsT.of_grown hr hg
  have hgb : w.heap.size ≤ g := (ownsRow_block hr rfl).1
  have hb := H.below.setCell (p := ⟨g, k * 4, none⟩) hgb (.string (sname j))
  rw [← fullL_cells, pCells_setN _ k (sname k) (sname j) 8 (fullL_get hk), List.set_eq_take_append_cons_drop, if_pos (by rw [fullL_len]; exact hk), fullL_take (by omega)] at hs
  refine ⟨hb, smMV ⟨some ⟨g, 0, none⟩, n, c⟩ N, K.block _ _ _ (by decide) H.m, ?_⟩
  have hlen : (fullL k ++ (sname j, (8 : Int)) :: (fullL n).drop (k + 1)).length = n := by
    have := fullL_len n
    simp [fullL_len]; omega
  rcases hj with ⟨hlt, rfl⟩ | ⟨hlt, rfl⟩
  · have hd : (fullL n).drop (k + 1) = (sname (k + 1), 8) :: (fullL n).drop (k + 1 + 1) := by
      rw [List.drop_eq_getElem_cons (by rw [fullL_len]; exact hlt)]
      congr 1
      have := fullL_get hlt
      rw [List.getElem?_eq_getElem (by rw [fullL_len]; exact hlt)] at this
      exact Option.some.inj this
    refine fell_row _ (fullL k ++ [(sname (k + 1), 8)]) ((fullL n).drop (k + 1 + 1)) (sname (k + 1), 8) (by decide) (hE.below hb) (hA.below hb) rfl rfl (by omega) hs (by rw [hd]; simp) hlen ?_ ?_ (sname_ok _ (by omega)) (.inl ⟨rfl, by simp⟩)
    · intro q hq
      rcases List.mem_append.1 hq with h | h
      · exact fullL_mem (n := k) (by omega) q h
      · obtain rfl : q = (sname (k + 1), 8) := by simpa using h
        exact ⟨sname_ok _ (by omega), show (1 : Int) ≤ 8 by decide, show (8 : Int) ≤ 64 by decide⟩
    · rw [List.map_append, fullL_names]
      have h := sNames_nodup (k + 1 + 1) (by omega)
      rw [sNames_succ, sNames_succ, List.append_assoc] at h
      refine List.Sublist.nodup (List.Sublist.append_left ?_ _) h
      simp
  · refine fell_row _ (fullL k) ((fullL n).drop (k + 1)) (sname 0, 8) (by decide) (hE.below hb) (hA.below hb) rfl rfl (by omega) hs rfl hlen (fullL_mem (by omega)) (by rw [fullL_names]; exact sNames_nodup k (by omega)) (sname_ok _ (by omega)) (.inl ⟨rfl, ?_⟩)
    rw [fullL_names]
    exact List.mem_of_getElem? (sNames_get (show 0 < k by omega))

theorem sw_3 {g c k : Nat} (H : SBase w B N n v ⟨some ⟨g, 0, none⟩, n, c⟩ W) (hE : Env w) (h3 : 3 ≤ n) (hn : n ≤ 60) (hk : k < n) : ChkRel w B 8 (W.setCell ⟨g, k, none⟩ (.string nmNo)) := by
  have hr := H.names
  dsimp only at hr
  obtain ⟨hs, hg⟩ := hr.stored k (.string nmNo)
  have K : KeepsT 9 W _ := KeepsT.of_grown hr hg
  have hgb : w.heap.size ≤ g := (ownsRow_block hr rfl).1
  have hgN : g < N := H.namesB g rfl
  rw [show ((sNames n).map Value.string).set k (.string nmNo) = ((sNames n).set k nmNo).map Value.string by rw [List.map_set]] at hs
  have hk' := K.block _ _ _ (by decide) H.k
  have ha' := H.a.other (T := g) (j := k) (by omega) (.string nmNo)
  have hl : (sNames n).set k nmNo ≠ [] := fun e => by
    have := congrArg List.length e
    rw [List.length_set, sNames_length] at this; simp at this; omega
  refine chk_pieces (d := ⟨⟨#[109]⟩, [⟨nmG, (sNames n).set k nmNo⟩], [opAdd 0, opNot, opDiv], [nmR], nmR, [], 100⟩) (smMV v N) (H.below.setCell (p := ⟨g, k, none⟩) hgb _) hE (by omega) (by omega) (K.block _ _ _ (by decide) H.m) (K.row H.regs (by decide)) rfl rfl rfl
    (clsAt_one (u := ⟨some ⟨g, 0, none⟩, n, c⟩) (Nat.le_refl _) (hk'.cell rfl) (hk'.cell rfl) (strsRow hs (by rw [List.length_set, sNames_length])))
    (opsAt3 (ua := ⟨some ⟨N + 1 + 1, 0, none⟩, 2, 2⟩) (ub := ⟨some ⟨N + 1 + 1 + 1, 0, none⟩, 1, 1⟩) (uc := ⟨some ⟨N + 1 + 1 + 1 + 1, 0, none⟩, 2, 2⟩) (ka := ⟨none, 0, 0⟩) (kb := ⟨none, 0, 0⟩) (kc := ⟨none, 0, 0⟩) (K.block _ _ _ (by decide) H.o) (opersTwo (K.block _ _ _ (by decide) H.u0)) (opersOne (K.block _ _ _ (by decide) H.u1)) (opersTwo (K.block _ _ _ (by decide) H.u2)) (strsNil _) (strsNil _) (strsNil _))
    (strsCells ha' rfl rfl) (strsNil _) (clsNice_one (by omega) _) (opsNice_std (by omega) hl) ?_
  have e := sw3 (n := n) (by omega) hk
  rw [checkS_cls (sNames_ne (by omega)) (by dsimp only; rw [e]; decide)]
  exact e

/-- A class is put behind the first. -/
theorem sw_app {W5 W' : World} {g cap : Nat} {s : SlV} {l2 : List ByteArray} {X : Int} (H : SBase w B N n v u W) (hE : Env w) (h3 : 3 ≤ n) (hn : n ≤ 60) (hb : Below W.heap.size W W5) (hs : W5.ownsRow w.heap.size 9 1 (.slice s.a s.n s.c) l2.length (l2.map Value.string))
    (hg : W5.grownBy W' (Value.slice (some ⟨N, 0, none⟩) 1 1).ownBlock) (hk : W'.ownsRow w.heap.size 46 2 (.slice (some ⟨g, 0, none⟩) 2 cap) 2 [.string nmG, .slice u.a u.n u.c, .string nmH, .slice s.a s.n s.c])
    (hx : checkS (fun _ => true) ⟨⟨#[109]⟩, [clG n, ⟨nmH, l2⟩], [opAdd 0, opNot, opDiv], [nmR], nmR, [], 100⟩ 0 (sNames n) (plN n) = X) : ChkRel w B X (W'.setCell ⟨B, 2, none⟩ (.slice (some ⟨g, 0, none⟩) 2 cap)) := by
  have H5 := H.step hb
  have hrow : W5.ownsRow w.heap.size 46 2 (.slice (some ⟨N, 0, none⟩) 1 1) 1 [.string nmG, .slice u.a u.n u.c] := ownsRow_of_cells (n := 1) H5.k H.hN rfl (by decide)
  have K1 : KeepsT 46 W5 W' := KeepsT.of_grown hrow hg
  have hm := K1.block _ _ _ (by decide) H5.m
  have K2 := KeepsT.of_set hm 2 (.slice (some ⟨g, 0, none⟩) 2 cap)
  have hB' : Below w.heap.size w W' := H5.below.grown hg H5.below.size (fun b e => by cases e; exact H.hN)
  have hcap : 2 ≤ cap := by
    rcases hk.2 with ⟨h0, _⟩ | ⟨_, _, _, h0, _, _, h1, _⟩
    · cases h0
    · cases h0; exact h1
  have hk' := K2.row hk (by decide)
  refine chk_pieces (d := ⟨⟨#[109]⟩, [clG n, ⟨nmH, l2⟩], [opAdd 0, opNot, opDiv], [nmR], nmR, [], 100⟩) { smMV v N with classes := ⟨some ⟨g, 0, none⟩, 2, cap⟩ } (hB'.setCell (p := ⟨B, 2, none⟩) H.hB _) hE (by omega) (by omega) (hm.set (j := 2) _) (K2.row (K1.row H5.regs (by decide)) (by decide)) rfl rfl rfl
    (clsAt_two (u := u) (s := s) hcap (ownsRow_cell hk' (j := 0) rfl) (ownsRow_cell hk' (j := 1) rfl) (strsRow (K2.row (K1.row H5.names (by decide)) (by decide)) (by rw [sNames_length])) (ownsRow_cell hk' (j := 2) rfl) (ownsRow_cell hk' (j := 3) rfl) (strsRow (K2.row (K1.row hs (by decide)) (by decide)) rfl))
    (opsAt3 (ua := ⟨some ⟨N + 1 + 1, 0, none⟩, 2, 2⟩) (ub := ⟨some ⟨N + 1 + 1 + 1, 0, none⟩, 1, 1⟩) (uc := ⟨some ⟨N + 1 + 1 + 1 + 1, 0, none⟩, 2, 2⟩) (ka := ⟨none, 0, 0⟩) (kb := ⟨none, 0, 0⟩) (kc := ⟨none, 0, 0⟩) (K2.block _ _ _ (by decide) (K1.block _ _ _ (by decide) H5.o)) (opersTwo (K2.block _ _ _ (by decide) (K1.block _ _ _ (by decide) H5.u0))) (opersOne (K2.block _ _ _ (by decide) (K1.block _ _ _ (by decide) H5.u1))) (opersTwo (K2.block _ _ _ (by decide) (K1.block _ _ _ (by decide) H5.u2))) (strsNil _) (strsNil _) (strsNil _))
    (strsCells (K2.block _ _ _ (by decide) (K1.block _ _ _ (by decide) H5.a)) rfl rfl) (strsNil _) (clsNice_two (by omega) _ _) (opsNice_std (by omega) (sNames_ne (by omega))) hx
end
end Go.Proofs.YtanbjaohmhoohaaGreatDoor
