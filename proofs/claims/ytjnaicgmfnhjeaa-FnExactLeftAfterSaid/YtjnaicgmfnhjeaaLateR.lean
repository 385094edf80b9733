/- The late rule: what is in memory while the program makes it. -/
import Derived.Test.YtjnaicgmfnhjeaaLateA
import Derived.Test.YtjnaicgmfnhjeaaLateW
import Derived.Test.YtjnaicgmfnhjeaaPairs
import Derived.Test.YtjnaicgmfnhjeaaRuled
namespace Go.Proofs.Ytjnaicgmfnhjeaa
open Go.RowKit
theorem infoPq : (Try.prog.info? 103).map (fun i => (i.zero, i.size, i.bytes)) = some (some (.agg #[.int .i64 0, .int .i64 0]), 2, 16) := by kernel_rfl
theorem one_srcR {W : World} {g : Nat} {t : TypeId} {cs : Array Value} (h : BlockIs W g t cs) : ∀ j u, cs.toList[j]? = some u → W.cell? ((⟨g, 0, none⟩ : Addr).add j) = some u := fun j u hu => by
  rw [Addr.add_lit, Nat.zero_add, h.cell, ← Array.getElem?_toList]; exact hu
theorem natI_snocR (l : List Nat) (x : Nat) : ic (natI l) ++ [.int .i64 (x : Int)] = ic (natI (l ++ [x])) := by unfold ic natI; simp
theorem BlockIs.otherR {w : World} {g g' : Nat} {t : TypeId} {cs : Array Value} (h : BlockIs w g t cs) (hne : g ≠ g') (i : Nat) (v : Value) : BlockIs (w.setCell ⟨g', i, none⟩ v) g t cs := (Below.heap_setCell _ _ _ _ hne).trans h
structure RunSt (w : World) (bS : Nat) (vo : Value) (n : Nat) (cs : List Value) (l : List Nat) (st : List Pr) (vt vs : Value) (wr : World) : Prop where
  blk : BlockIs wr bS 99 #[vt, vs]
  ot : wr.ownsRow w.heap.size 3 1 vt l.length (ic (natI l))
  ow : wr.ownsRow w.heap.size 103 2 vs st.length (pc st)
  oo : wr.ownsRow w.heap.size 3 1 vo n cs
  ovt : Apart vo vt
  bl : Below w.heap.size w wr
  lo : w.heap.size < bS
  res : BlockIs wr w.heap.size 99 #[.slice none 0 0, .slice none 0 0]
section
variable {w : World} {bS : Nat} {vo : Value} {n : Nat} {cs : List Value} {l : List Nat} {st : List Pr} {vt vs : Value} {W W' : World}
theorem RunSt.below (h : RunSt w bS vo n cs l st vt vs W) (hb : Below W.heap.size W W') : RunSt w bS vo n cs l st vt vs W' :=
  ⟨h.blk.below hb, own_blw h.ot hb, own_blw h.ow hb, own_blw h.oo hb, h.ovt, h.bl.trans (hb.mono h.bl.size), h.lo, h.res.below hb⟩
theorem RunSt.cells (h : RunSt w bS vo n cs l st vt vs W) : W.cell? ⟨bS, 0, none⟩ = some vt ∧ W.cell? ⟨bS, 1, none⟩ = some vs ∧ W.frozen? ⟨bS, 0, none⟩ = false ∧ W.frozen? ⟨bS, 1, none⟩ = false :=
  ⟨h.blk.cell 0, h.blk.cell 1, h.blk.frozen 0, h.blk.frozen 1⟩
/-- A turn of the block of the jobs that are left. -/
theorem RunSt.turn (h : RunSt w bS vo n cs l st vt vs W) (hg : W.grownBy W' vt.ownBlock) {l' : List Nat} {v' : Value} (ho : W'.ownsRow w.heap.size 3 1 v' l'.length (ic (natI l'))) (ha : Apart vo v') :
    W'.cell? ⟨bS, 0, none⟩ = some vt ∧ W'.frozen? ⟨bS, 0, none⟩ = false ∧ RunSt w bS vo n cs l' st v' vs (W'.setCell ⟨bS, 0, none⟩ v') := by
  have hblk := block_apart h.blk h.ot (by decide) hg
  have hres := block_apart h.res h.ot (by decide) hg
  have h2 := own_apart h.ow (apart_type h.ow h.ot (by decide)) hg
  have h3 := own_apart h.oo h.ovt hg
  have hb : Below w.heap.size w W' := h.bl.grown hg h.bl.size (fun j hj => (h.ot.lt j hj).1)
  exact ⟨hblk.cell 0, hblk.frozen 0, hblk.set 0 v', own_setb ho hblk (by decide) 0 v', own_setb h2 hblk (by decide) 0 v', own_setb h3 hblk (by decide) 0 v', ha, hb.setCell (p := ⟨bS, 0, none⟩) (Nat.le_of_lt h.lo) v', h.lo, hres.otherR (Nat.ne_of_lt h.lo) 0 v'⟩
theorem RunSt.appT (h : RunSt w bS vo n cs l st vt vs W) (x : Nat) (a : Addr) (hsrc : ∀ j u, ([.int .i64 (x : Int)] : List Value)[j]? = some u → W.cell? (a.add j) = some u) (hl : l.length ≤ 1000) :
    ∃ v' w', (Builtin.append_ #[23, 23] 23 #[vt, .slice (some a) 1 1]).run Try.prog W = .ok v' w' ∧ w'.cell? ⟨bS, 0, none⟩ = some vt ∧ w'.frozen? ⟨bS, 0, none⟩ = false ∧ RunSt w bS vo n cs (l ++ [x]) st v' vs (w'.setCell ⟨bS, 0, none⟩ v') := by
  obtain ⟨i0, hi, hz0, hz1, hz2⟩ := info_parts infoI
  obtain ⟨v', w', hrun, hown, hgr, hob⟩ := append_at (P := Try.prog) W w.heap.size 23 23 3 i0 (.int .i64 0) 1 8 Try.underlying23 hi hz0 hz1 hz2 rfl (by decide) _ _ _ h.ot a 1 1 [.int .i64 (x : Int)] rfl hsrc (by intro u hu; rw [List.mem_singleton.1 hu]; rfl) (by omega) (by unfold maxLen; omega) (by omega) h.bl.size
  rw [natI_snocR] at hown
  have hown' : w'.ownsRow w.heap.size 3 1 v' (l ++ [x]).length (ic (natI (l ++ [x]))) := by rw [List.length_append]; exact hown
  exact ⟨v', w', hrun, h.turn hgr hown' (apart_app h.oo h.ovt (Nat.le_refl _) hob)⟩
theorem RunSt.appS (h : RunSt w bS vo n cs l st vt vs W) (x y : Int) (a : Addr) (hsrc : ∀ j u, ([.int .i64 x, .int .i64 y] : List Value)[j]? = some u → W.cell? (a.add j) = some u) (hl : st.length ≤ 1000) :
    ∃ v' w', (Builtin.append_ #[45, 45] 45 #[vs, .slice (some a) 1 1]).run Try.prog W = .ok v' w' ∧ w'.cell? ⟨bS, 1, none⟩ = some vs ∧ w'.frozen? ⟨bS, 1, none⟩ = false ∧ RunSt w bS vo n cs l (st ++ [(x, y)]) vt v' (w'.setCell ⟨bS, 1, none⟩ v') := by
  obtain ⟨i0, hi, hz0, hz1, hz2⟩ := info_parts infoPq
  obtain ⟨v', w', hrun, hown, hgr, hob⟩ := append_at (P := Try.prog) W w.heap.size 45 45 103 i0 (.agg #[.int .i64 0, .int .i64 0]) 2 16 Try.underlying45 hi hz0 hz1 hz2 rfl (by decide) _ _ _ h.ow a 1 1 [.int .i64 x, .int .i64 y] rfl hsrc (by intro u hu; simp at hu; rcases hu with rfl | rfl <;> rfl) (by omega) (by unfold maxLen; omega) (by omega) h.bl.size
  have hblk := block_apart h.blk h.ow (by decide) hgr
  have hres := block_apart h.res h.ow (by decide) hgr
  have hb : Below w.heap.size w w' := h.bl.grown hgr h.bl.size (fun j hj => (h.ow.lt j hj).1)
  refine ⟨v', w', hrun, hblk.cell 1, hblk.frozen 1, ?_⟩
  have h1 := own_apart h.ot (apart_type h.ot h.ow (by decide)) hgr
  have h3 := own_apart h.oo (apart_type h.oo h.ow (by decide)) hgr
  have hown' : w'.ownsRow w.heap.size 103 2 v' (st ++ [(x, y)]).length (pc (st ++ [(x, y)])) := by rw [List.length_append, pc_snoc]; exact hown
  exact ⟨hblk.set 1 v', own_setb h1 hblk (by decide) 1 v', own_setb hown' hblk (by decide) 1 v', own_setb h3 hblk (by decide) 1 v', h.ovt, hb.setCell (p := ⟨bS, 1, none⟩) (Nat.le_of_lt h.lo) v', h.lo, hres.otherR (Nat.ne_of_lt h.lo) 1 v'⟩
end
/-- What was done is stored as the result. -/
theorem run_fin {w : World} {bS : Nat} {vo : Value} {n : Nat} {cs : List Value} {l : List Nat} {st : List Pr} {vt vs : Value} {W : World} (h : RunSt w bS vo n cs l st vt vs W) :
    ∃ W', W' = (W.setCell ⟨w.heap.size, 0, none⟩ vt).setCell ⟨w.heap.size, 1, none⟩ vs ∧ (W'.cell? ⟨w.heap.size, 0, none⟩ = some vt ∧ W'.cell? ⟨w.heap.size, 1, none⟩ = some vs) ∧
      W'.ownsRow w.heap.size 3 1 vt l.length (ic (natI l)) ∧ W'.ownsRow w.heap.size 103 2 vs st.length (pc st) ∧ Below w.heap.size w W' := by
  have r1 := h.res.set 0 vt
  have r2 := r1.set 1 vs
  refine ⟨_, rfl, ⟨r2.cell 0, r2.cell 1⟩, ?_, ?_, (h.bl.setCell (p := ⟨w.heap.size, 0, none⟩) (Nat.le_refl _) vt).setCell (p := ⟨w.heap.size, 1, none⟩) (Nat.le_refl _) vs⟩
  · exact own_setb (own_setb h.ot h.res (by decide) 0 vt) r1 (by decide) 1 vs
  · exact own_setb (own_setb h.ow h.res (by decide) 0 vt) r1 (by decide) 1 vs
theorem lateStep_yesR {js : List J} {s : LR} {x : Nat} (h : overB js (s.left ++ [x]) x = true) : lateStep js s x = ⟨(s.left ++ [x]).eraseIdx (longL js (s.left ++ [x])), s.drop ++ [(s.left ++ [x]).getD (longL js (s.left ++ [x])) 0], s.steps ++ [((x : Int), (((s.left ++ [x]).getD (longL js (s.left ++ [x])) 0 : Nat) : Int))]⟩ := by unfold lateStep; rw [if_pos h]
theorem lateStep_noR {js : List J} {s : LR} {x : Nat} (h : overB js (s.left ++ [x]) x = false) : lateStep js s x = ⟨s.left ++ [x], s.drop, s.steps ++ [((x : Int), -1)]⟩ := by unfold lateStep; rw [if_neg (by rw [h]; simp)]
end Go.Proofs.Ytjnaicgmfnhjeaa
