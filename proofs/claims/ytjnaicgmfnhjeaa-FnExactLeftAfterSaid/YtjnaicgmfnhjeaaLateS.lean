/- The late rule: the model's. -/
import Derived.Test.YtjnaicgmfnhjeaaLateA
import Derived.Test.YtjnaicgmfnhjeaaLateW
import Derived.Test.YtjnaicgmfnhjeaaOrdS
import Derived.Test.YtjnaicgmfnhjeaaPairs
namespace Go.Proofs.Ytjnaicgmfnhjeaa
open Go.RowKit
theorem infoPr : (Try.prog.info? 103).map (fun i => (i.zero, i.size, i.bytes)) = some (some (.agg #[.int .i64 0, .int .i64 0]), 2, 16) := by kernel_rfl
/-- What is in memory while the model makes the late rule. -/
structure LateSt (w : World) (bS : Nat) (vo : Value) (n : Nat) (os : List Value) (l d : List Nat) (st : List Pr) (vt vd vs : Value) (wr : World) : Prop where
  blk : BlockIs wr bS 96 #[vt, vd, vs]
  ot : wr.ownsRow w.heap.size 3 1 vt l.length (ic (natI l))
  od : wr.ownsRow w.heap.size 3 1 vd d.length (ic (natI d))
  ow : wr.ownsRow w.heap.size 103 2 vs st.length (pc st)
  oo : wr.ownsRow w.heap.size 3 1 vo n os
  td : Apart vt vd
  ovt : Apart vo vt
  ovd : Apart vo vd
  bl : Below w.heap.size w wr
  lo : w.heap.size < bS
  res : BlockIs wr w.heap.size 96 #[.slice none 0 0, .slice none 0 0, .slice none 0 0]
section
variable {w : World} {bS : Nat} {vo : Value} {n : Nat} {os : List Value} {l d : List Nat} {st : List Pr} {vt vd vs : Value} {W W' : World}
theorem LateSt.below (h : LateSt w bS vo n os l d st vt vd vs W) (hb : Below W.heap.size W W') : LateSt w bS vo n os l d st vt vd vs W' :=
  ⟨h.blk.below hb, own_blw h.ot hb, own_blw h.od hb, own_blw h.ow hb, own_blw h.oo hb, h.td, h.ovt, h.ovd, h.bl.trans (hb.mono h.bl.size), h.lo, h.res.below hb⟩
theorem LateSt.cells (h : LateSt w bS vo n os l d st vt vd vs W) : (W.cell? ⟨bS, 0, none⟩ = some vt ∧ W.cell? ⟨bS, 1, none⟩ = some vd ∧ W.cell? ⟨bS, 2, none⟩ = some vs) ∧ W.frozen? ⟨bS, 0, none⟩ = false ∧ W.frozen? ⟨bS, 1, none⟩ = false ∧ W.frozen? ⟨bS, 2, none⟩ = false :=
  ⟨⟨h.blk.cell 0, h.blk.cell 1, h.blk.cell 2⟩, h.blk.frozen 0, h.blk.frozen 1, h.blk.frozen 2⟩
theorem BlockIs.other {w : World} {g g' : Nat} {t : TypeId} {cs : Array Value} (h : BlockIs w g t cs) (hne : g ≠ g') (i : Nat) (v : Value) : BlockIs (w.setCell ⟨g', i, none⟩ v) g t cs := (Below.heap_setCell _ _ _ _ hne).trans h
/-- The jobs taken become another slice of one's own. -/
theorem LateSt.setT (h : LateSt w bS vo n os l d st vt vd vs W) {l' : List Nat} {v' : Value} (ho : W.ownsRow w.heap.size 3 1 v' l'.length (ic (natI l'))) (h1 : Apart v' vd) (h2 : Apart vo v') : LateSt w bS vo n os l' d st v' vd vs (W.setCell ⟨bS, 0, none⟩ v') :=
  ⟨h.blk.set 0 v', own_setb ho h.blk (by decide) 0 v', own_setb h.od h.blk (by decide) 0 v', own_setb h.ow h.blk (by decide) 0 v', own_setb h.oo h.blk (by decide) 0 v', h1, h2, h.ovd, h.bl.setCell (p := ⟨bS, 0, none⟩) (Nat.le_of_lt h.lo) v', h.lo, h.res.other (Nat.ne_of_lt h.lo) 0 v'⟩
theorem LateSt.setD (h : LateSt w bS vo n os l d st vt vd vs W) {d' : List Nat} {v' : Value} (ho : W.ownsRow w.heap.size 3 1 v' d'.length (ic (natI d'))) (h1 : Apart vt v') (h2 : Apart vo v') : LateSt w bS vo n os l d' st vt v' vs (W.setCell ⟨bS, 1, none⟩ v') :=
  ⟨h.blk.set 1 v', own_setb h.ot h.blk (by decide) 1 v', own_setb ho h.blk (by decide) 1 v', own_setb h.ow h.blk (by decide) 1 v', own_setb h.oo h.blk (by decide) 1 v', h1, h.ovt, h2, h.bl.setCell (p := ⟨bS, 1, none⟩) (Nat.le_of_lt h.lo) v', h.lo, h.res.other (Nat.ne_of_lt h.lo) 1 v'⟩
theorem LateSt.setS (h : LateSt w bS vo n os l d st vt vd vs W) {st' : List Pr} {v' : Value} (ho : W.ownsRow w.heap.size 103 2 v' st'.length (pc st')) : LateSt w bS vo n os l d st' vt vd v' (W.setCell ⟨bS, 2, none⟩ v') :=
  ⟨h.blk.set 2 v', own_setb h.ot h.blk (by decide) 2 v', own_setb h.od h.blk (by decide) 2 v', own_setb ho h.blk (by decide) 2 v', own_setb h.oo h.blk (by decide) 2 v', h.td, h.ovt, h.ovd, h.bl.setCell (p := ⟨bS, 2, none⟩) (Nat.le_of_lt h.lo) v', h.lo, h.res.other (Nat.ne_of_lt h.lo) 2 v'⟩
theorem natI_snoc (l : List Nat) (x : Nat) : ic (natI l) ++ [.int .i64 (x : Int)] = ic (natI (l ++ [x])) := by unfold ic natI; simp
/-- An append to the jobs taken, and its store. -/
theorem LateSt.appT (h : LateSt w bS vo n os l d st vt vd vs W) (x : Nat) (a : Addr) (hsrc : ∀ j u, ([.int .i64 (x : Int)] : List Value)[j]? = some u → W.cell? (a.add j) = some u) (hl : l.length ≤ 1000) :
    ∃ v' w', (Builtin.append_ #[23, 23] 23 #[vt, .slice (some a) 1 1]).run Try.prog W = .ok v' w' ∧ w'.cell? ⟨bS, 0, none⟩ = some vt ∧ w'.frozen? ⟨bS, 0, none⟩ = false ∧ LateSt w bS vo n os (l ++ [x]) d st v' vd vs (w'.setCell ⟨bS, 0, none⟩ v') := by
  obtain ⟨i0, hi, hz0, hz1, hz2⟩ := info_parts infoI
  obtain ⟨v', w', hrun, hown, hgr, hob⟩ := append_at (P := Try.prog) W w.heap.size 23 23 3 i0 (.int .i64 0) 1 8 Try.underlying23 hi hz0 hz1 hz2 rfl (by decide) _ _ _ h.ot a 1 1 [.int .i64 (x : Int)] rfl hsrc (by intro u hu; rw [List.mem_singleton.1 hu]; rfl) (by omega) (by unfold maxLen; omega) (by omega) h.bl.size
  have hblk := block_apart h.blk h.ot (by decide) hgr
  have hres := block_apart h.res h.ot (by decide) hgr
  rw [natI_snoc] at hown
  have hob' : v'.ownBlock = vt.ownBlock ∨ v'.ownBlock = some W.heap.size := hob
  have hb : Below w.heap.size w w' := h.bl.grown hgr h.bl.size (fun j hj => (h.ot.lt j hj).1)
  refine ⟨v', w', hrun, hblk.cell 0, hblk.frozen 0, ?_⟩
  have h1 := own_apart h.od (Apart.symm h.td) hgr
  have h2 := own_apart h.ow (apart_type h.ow h.ot (by decide)) hgr
  have h3 := own_apart h.oo h.ovt hgr
  have a1 : Apart v' vd := Apart.symm (apart_app h.od (Apart.symm h.td) (Nat.le_refl _) hob')
  have a2 : Apart vo v' := apart_app h.oo h.ovt (Nat.le_refl _) hob'
  have hown' : w'.ownsRow w.heap.size 3 1 v' (l ++ [x]).length (ic (natI (l ++ [x]))) := by rw [List.length_append]; exact hown
  exact ⟨hblk.set 0 v', own_setb hown' hblk (by decide) 0 v', own_setb h1 hblk (by decide) 0 v', own_setb h2 hblk (by decide) 0 v', own_setb h3 hblk (by decide) 0 v', a1, a2, h.ovd, hb.setCell (p := ⟨bS, 0, none⟩) (Nat.le_of_lt h.lo) v', h.lo, hres.other (Nat.ne_of_lt h.lo) 0 v'⟩
theorem LateSt.appD (h : LateSt w bS vo n os l d st vt vd vs W) (x : Nat) (a : Addr) (hsrc : ∀ j u, ([.int .i64 (x : Int)] : List Value)[j]? = some u → W.cell? (a.add j) = some u) (hl : d.length ≤ 1000) :
    ∃ v' w', (Builtin.append_ #[23, 23] 23 #[vd, .slice (some a) 1 1]).run Try.prog W = .ok v' w' ∧ w'.cell? ⟨bS, 1, none⟩ = some vd ∧ w'.frozen? ⟨bS, 1, none⟩ = false ∧ LateSt w bS vo n os l (d ++ [x]) st vt v' vs (w'.setCell ⟨bS, 1, none⟩ v') := by
  obtain ⟨i0, hi, hz0, hz1, hz2⟩ := info_parts infoI
  obtain ⟨v', w', hrun, hown, hgr, hob⟩ := append_at (P := Try.prog) W w.heap.size 23 23 3 i0 (.int .i64 0) 1 8 Try.underlying23 hi hz0 hz1 hz2 rfl (by decide) _ _ _ h.od a 1 1 [.int .i64 (x : Int)] rfl hsrc (by intro u hu; rw [List.mem_singleton.1 hu]; rfl) (by omega) (by unfold maxLen; omega) (by omega) h.bl.size
  have hblk := block_apart h.blk h.od (by decide) hgr
  have hres := block_apart h.res h.od (by decide) hgr
  rw [natI_snoc] at hown
  have hob' : v'.ownBlock = vd.ownBlock ∨ v'.ownBlock = some W.heap.size := hob
  have hb : Below w.heap.size w w' := h.bl.grown hgr h.bl.size (fun j hj => (h.od.lt j hj).1)
  refine ⟨v', w', hrun, hblk.cell 1, hblk.frozen 1, ?_⟩
  have h1 := own_apart h.ot h.td hgr
  have h2 := own_apart h.ow (apart_type h.ow h.od (by decide)) hgr
  have h3 := own_apart h.oo h.ovd hgr
  have a1 : Apart vt v' := apart_app h.ot h.td (Nat.le_refl _) hob'
  have a2 : Apart vo v' := apart_app h.oo h.ovd (Nat.le_refl _) hob'
  have hown' : w'.ownsRow w.heap.size 3 1 v' (d ++ [x]).length (ic (natI (d ++ [x]))) := by rw [List.length_append]; exact hown
  exact ⟨hblk.set 1 v', own_setb h1 hblk (by decide) 1 v', own_setb hown' hblk (by decide) 1 v', own_setb h2 hblk (by decide) 1 v', own_setb h3 hblk (by decide) 1 v', a1, h.ovt, a2, hb.setCell (p := ⟨bS, 1, none⟩) (Nat.le_of_lt h.lo) v', h.lo, hres.other (Nat.ne_of_lt h.lo) 1 v'⟩
theorem LateSt.appS (h : LateSt w bS vo n os l d st vt vd vs W) (x y : Int) (a : Addr) (hsrc : ∀ j u, ([.int .i64 x, .int .i64 y] : List Value)[j]? = some u → W.cell? (a.add j) = some u) (hl : st.length ≤ 1000) :
    ∃ v' w', (Builtin.append_ #[45, 45] 45 #[vs, .slice (some a) 1 1]).run Try.prog W = .ok v' w' ∧ w'.cell? ⟨bS, 2, none⟩ = some vs ∧ w'.frozen? ⟨bS, 2, none⟩ = false ∧ LateSt w bS vo n os l d (st ++ [(x, y)]) vt vd v' (w'.setCell ⟨bS, 2, none⟩ v') := by
  obtain ⟨i0, hi, hz0, hz1, hz2⟩ := info_parts infoPr
  obtain ⟨v', w', hrun, hown, hgr, hob⟩ := append_at (P := Try.prog) W w.heap.size 45 45 103 i0 (.agg #[.int .i64 0, .int .i64 0]) 2 16 Try.underlying45 hi hz0 hz1 hz2 rfl (by decide) _ _ _ h.ow a 1 1 [.int .i64 x, .int .i64 y] rfl hsrc (by intro u hu; simp at hu; rcases hu with rfl | rfl <;> rfl) (by omega) (by unfold maxLen; omega) (by omega) h.bl.size
  have hblk := block_apart h.blk h.ow (by decide) hgr
  have hres := block_apart h.res h.ow (by decide) hgr
  have hb : Below w.heap.size w w' := h.bl.grown hgr h.bl.size (fun j hj => (h.ow.lt j hj).1)
  refine ⟨v', w', hrun, hblk.cell 2, hblk.frozen 2, ?_⟩
  have h1 := own_apart h.ot (apart_type h.ot h.ow (by decide)) hgr
  have h2 := own_apart h.od (apart_type h.od h.ow (by decide)) hgr
  have h3 := own_apart h.oo (apart_type h.oo h.ow (by decide)) hgr
  have hown' : w'.ownsRow w.heap.size 103 2 v' (st ++ [(x, y)]).length (pc (st ++ [(x, y)])) := by rw [List.length_append, pc_snoc]; exact hown
  exact ⟨hblk.set 2 v', own_setb h1 hblk (by decide) 2 v', own_setb h2 hblk (by decide) 2 v', own_setb hown' hblk (by decide) 2 v', own_setb h3 hblk (by decide) 2 v', h.td, h.ovt, h.ovd, hb.setCell (p := ⟨bS, 2, none⟩) (Nat.le_of_lt h.lo) v', h.lo, hres.other (Nat.ne_of_lt h.lo) 2 v'⟩
end
/-- What was done is stored as the result. -/
theorem late_fin {w : World} {bS : Nat} {vo : Value} {n : Nat} {cs : List Value} {l d : List Nat} {st : List Pr} {vt vd vs : Value} {W : World} (h : LateSt w bS vo n cs l d st vt vd vs W) :
    ∃ W', W' = ((W.setCell ⟨w.heap.size, 0, none⟩ vt).setCell ⟨w.heap.size, 1, none⟩ vd).setCell ⟨w.heap.size, 2, none⟩ vs ∧ (W'.cell? ⟨w.heap.size, 0, none⟩ = some vt ∧ W'.cell? ⟨w.heap.size, 1, none⟩ = some vd ∧ W'.cell? ⟨w.heap.size, 2, none⟩ = some vs) ∧
      W'.ownsRow w.heap.size 3 1 vt l.length (ic (natI l)) ∧ W'.ownsRow w.heap.size 3 1 vd d.length (ic (natI d)) ∧ W'.ownsRow w.heap.size 103 2 vs st.length (pc st) ∧ Apart vt vd ∧ Below w.heap.size w W' := by
  have r1 := h.res.set 0 vt
  have r2 := r1.set 1 vd
  have r3 := r2.set 2 vs
  refine ⟨_, rfl, ⟨r3.cell 0, r3.cell 1, r3.cell 2⟩, ?_, ?_, ?_, h.td, ((h.bl.setCell (p := ⟨w.heap.size, 0, none⟩) (Nat.le_refl _) vt).setCell (p := ⟨w.heap.size, 1, none⟩) (Nat.le_refl _) vd).setCell (p := ⟨w.heap.size, 2, none⟩) (Nat.le_refl _) vs⟩
  · exact own_setb (own_setb (own_setb h.ot h.res (by decide) 0 vt) r1 (by decide) 1 vd) r2 (by decide) 2 vs
  · exact own_setb (own_setb (own_setb h.od h.res (by decide) 0 vt) r1 (by decide) 1 vd) r2 (by decide) 2 vs
  · exact own_setb (own_setb (own_setb h.ow h.res (by decide) 0 vt) r1 (by decide) 1 vd) r2 (by decide) 2 vs
/-- The world in which the model begins. -/
theorem late_start (w : World) : LateSt w (w.heap.size + 1 + 1 + 1 + 1) (.slice none 0 0) 0 [] [] [] [] (.slice (some ⟨w.heap.size + 1, 0, none⟩) 0 0) (.slice (some ⟨w.heap.size + 1 + 1, 0, none⟩) 0 0) (.slice (some ⟨w.heap.size + 1 + 1 + 1, 0, none⟩) 0 0)
    (((((w.alloc (.cells #[.slice none 0 0, .slice none 0 0, .slice none 0 0] 96)).alloc (.cells #[] 3)).alloc (.cells #[] 3)).alloc (.cells #[] 103)).alloc (.cells #[.slice (some ⟨w.heap.size + 1, 0, none⟩) 0 0, .slice (some ⟨w.heap.size + 1 + 1, 0, none⟩) 0 0, .slice (some ⟨w.heap.size + 1 + 1 + 1, 0, none⟩) 0 0] 96)) := by
  have b1 := (Below.refl w.heap.size w).alloc (Nat.le_refl _) (.cells #[.slice none 0 0, .slice none 0 0, .slice none 0 0] 96)
  have r1 := BlockIs.new w 96 #[.slice none 0 0, .slice none 0 0, .slice none 0 0]
  have z1 : (w.alloc (.cells #[.slice none 0 0, .slice none 0 0, .slice none 0 0] 96)).heap.size = w.heap.size + 1 := by simp
  generalize w.alloc (.cells #[.slice none 0 0, .slice none 0 0, .slice none 0 0] 96) = W1 at *
  have o2 : (W1.alloc (.cells #[] 3)).ownsRow w.heap.size 3 1 (.slice (some ⟨w.heap.size + 1, 0, none⟩) 0 0) 0 (ic (natI [])) := by
    have := World.ownsRow_made W1 (e := 3) (base := w.heap.size) (size := 1) #[] 0 b1.size (by unfold maxLen; omega) rfl
    rwa [z1] at this
  have r2 := r1.below ((Below.refl _ _).alloc (Nat.le_refl _) (.cells #[] 3))
  have b2 := b1.alloc b1.size (.cells #[] 3)
  have z2 : (W1.alloc (.cells #[] 3)).heap.size = w.heap.size + 1 + 1 := by simp [z1]
  generalize W1.alloc (.cells #[] 3) = W2 at *
  have o3 : (W2.alloc (.cells #[] 3)).ownsRow w.heap.size 3 1 (.slice (some ⟨w.heap.size + 1 + 1, 0, none⟩) 0 0) 0 (ic (natI [])) := by
    have := World.ownsRow_made W2 (e := 3) (base := w.heap.size) (size := 1) #[] 0 b2.size (by unfold maxLen; omega) rfl
    rwa [z2] at this
  have o2' := alloc_own o2 (.cells #[] 3)
  have r3 := r2.below ((Below.refl _ _).alloc (Nat.le_refl _) (.cells #[] 3))
  have b3 := b2.alloc b2.size (.cells #[] 3)
  have z3 : (W2.alloc (.cells #[] 3)).heap.size = w.heap.size + 1 + 1 + 1 := by simp [z2]
  generalize W2.alloc (.cells #[] 3) = W3 at *
  have o4 : (W3.alloc (.cells #[] 103)).ownsRow w.heap.size 103 2 (.slice (some ⟨w.heap.size + 1 + 1 + 1, 0, none⟩) 0 0) 0 (pc []) := by
    have := World.ownsRow_made W3 (e := 103) (base := w.heap.size) (size := 2) #[] 0 b3.size (by unfold maxLen; omega) rfl
    rwa [z3] at this
  have o2'' := alloc_own o2' (.cells #[] 103)
  have o3'' := alloc_own o3 (.cells #[] 103)
  have r4 := r3.below ((Below.refl _ _).alloc (Nat.le_refl _) (.cells #[] 103))
  have b4 := b3.alloc b3.size (.cells #[] 103)
  have z4 : (W3.alloc (.cells #[] 103)).heap.size = w.heap.size + 1 + 1 + 1 + 1 := by simp [z3]
  generalize W3.alloc (.cells #[] 103) = W4 at *
  have k := BlockIs.new W4 96 #[.slice (some ⟨w.heap.size + 1, 0, none⟩) 0 0, .slice (some ⟨w.heap.size + 1 + 1, 0, none⟩) 0 0, .slice (some ⟨w.heap.size + 1 + 1 + 1, 0, none⟩) 0 0]
  rw [z4] at k
  exact ⟨k, alloc_own o2'' _, alloc_own o3'' _, alloc_own o4 _, World.ownsRow_nil _ _ _ _, (fun g h1 h2 => by have e1 : w.heap.size + 1 = g := Option.some.inj h1; have e2 : w.heap.size + 1 + 1 = g := Option.some.inj h2; omega), (fun g h1 => by cases h1), (fun g h1 => by cases h1), b4.alloc b4.size _, by omega, r4.below ((Below.refl _ _).alloc (Nat.le_refl _) _)⟩
theorem lateStep_yes {js : List J} {s : LR} {x : Nat} (h : overB js (s.left ++ [x]) x = true) : lateStep js s x = ⟨(s.left ++ [x]).eraseIdx (longL js (s.left ++ [x])), s.drop ++ [(s.left ++ [x]).getD (longL js (s.left ++ [x])) 0], s.steps ++ [((x : Int), (((s.left ++ [x]).getD (longL js (s.left ++ [x])) 0 : Nat) : Int))]⟩ := by unfold lateStep; rw [if_pos h]
theorem lateStep_no {js : List J} {s : LR} {x : Nat} (h : overB js (s.left ++ [x]) x = false) : lateStep js s x = ⟨s.left ++ [x], s.drop, s.steps ++ [((x : Int), -1)]⟩ := by unfold lateStep; rw [if_neg (by rw [h]; simp)]
theorem natI_erase (l : List Nat) (k : Nat) : (natI l).eraseIdx k = natI (l.eraseIdx k) := by
  unfold natI; rw [List.eraseIdx_eq_take_drop_succ, List.eraseIdx_eq_take_drop_succ, List.map_append, List.map_take, List.map_drop]
end Go.Proofs.Ytjnaicgmfnhjeaa
