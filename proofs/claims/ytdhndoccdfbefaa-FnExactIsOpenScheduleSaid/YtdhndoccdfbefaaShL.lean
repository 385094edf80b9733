/- Ends of all jobs in a list of lists: plain, and where they lie. -/
import Derived.Test.YtdhndoccdfbefaaShF
import Derived.Test.YtdhndoccdfbefaaSlsR
namespace Go.Proofs.Ytdhndoccdfbefaa
open Go.RowKit

def rowE (xss : List (List Int)) (p : List Nat) (x : Nat) : List Int := (List.range (mOf xss)).map (eAt xss p (x + 1))
def rowC (e t : Nat → Int) (k : Nat) : List Value := ic ((List.range k).map fun j => nowE e t (j + 1))
theorem rowC_len (e t : Nat → Int) (k : Nat) : (rowC e t k).length = k := by unfold rowC; rw [ic_len]; simp
theorem rowC_step (e t : Nat → Int) (k : Nat) : rowC e t (k + 1) = rowC e t k ++ [.int .i64 (nowE e t (k + 1))] := by
  unfold rowC ic
  rw [List.range_succ, List.map_append, List.map_append]
  rfl
theorem rowC_all (xss : List (List Int)) (p : List Nat) (x : Nat) : rowC (eAt xss p x) (tm xss (p.getD x 0)) (mOf xss) = ic (rowE xss p x) := by
  unfold rowC rowE
  congr 1
  apply List.map_congr_left
  intro j hj
  have := List.mem_range.1 hj
  show _ = if j < mOf xss then _ else 0
  rw [if_pos this]
/-- m cells. -/
def freeA (f : Nat → Int) (m : Nat) : Array Value := ((List.range m).map fun j => Value.int .i64 (f j)).toArray
theorem freeA_size (f : Nat → Int) (m : Nat) : (freeA f m).size = m := by unfold freeA; simp
theorem freeA_get (f : Nat → Int) (m k : Nat) (h : k < m) : (freeA f m)[k]? = some (.int .i64 (f k)) := by unfold freeA; simp [h]
theorem freeA_ext {f g : Nat → Int} {m : Nat} (h : ∀ k, k < m → f k = g k) : freeA f m = freeA g m := by
  unfold freeA
  congr 1
  apply List.map_congr_left
  intro k hk
  rw [h k (List.mem_range.1 hk)]
theorem freeA_set (f : Nat → Int) (m k : Nat) (v : Int) (h : k < m) : (freeA f m).setIfInBounds k (.int .i64 v) = freeA (fun j => if j = k then v else f j) m := by
  apply Array.ext_getElem?
  intro j
  by_cases hj : j < m
  · rw [Array.getElem?_setIfInBounds, freeA_get _ m j hj, freeA_size]
    by_cases e : k = j
    · subst e; rw [if_pos rfl, if_pos h, freeA_get _ m k hj]; simp
    · rw [if_neg e, freeA_get _ m j hj, if_neg (fun x => e x.symm)]
  · rw [Array.getElem?_eq_none (by simp [freeA_size]; omega), Array.getElem?_eq_none (by simp [freeA_size]; omega)]
theorem freeA_mix (e t : Nat → Int) (m k : Nat) (h : k < m) : (freeA (mixE e t k) m).setIfInBounds k (.int .i64 (nowE e t (k + 1))) = freeA (mixE e t (k + 1)) m := by
  rw [freeA_set _ _ _ _ h]
  apply freeA_ext
  intro j _
  unfold mixE
  by_cases h : j = k
  · subst h; rw [if_pos rfl, if_pos (by omega)]
  · rw [if_neg h]
    by_cases h2 : j < k
    · rw [if_pos h2, if_pos (by omega)]
    · rw [if_neg h2, if_neg (by omega)]
theorem freeA_all (xss : List (List Int)) (p : List Nat) (x : Nat) : freeA (mixE (eAt xss p x) (tm xss (p.getD x 0)) (mOf xss)) (mOf xss) = freeA (eAt xss p (x + 1)) (mOf xss) := by
  apply freeA_ext
  intro j hj
  unfold mixE
  rw [if_pos hj]
  show _ = if j < mOf xss then _ else 0
  rw [if_pos hj]
theorem freeA_zero (m : Nat) (f : Nat → Int) (hf : ∀ k, f k = 0) : madeCells #[.int .i64 0] m = freeA f m := by
  apply Array.toList_inj.1
  rw [toList_madeCells_one]
  unfold freeA
  apply List.ext_getElem
  · simp
  · intro i h1 h2
    simp [hf]
/-- The rows of the jobs that have been done. -/
def doneR (xss : List (List Int)) (p : List Nat) (k : Nat) : Nat → List Value := fun j => if p.idxOf j < k then ic (rowE xss p (p.idxOf j)) else []
def endsF (xss : List (List Int)) (p : List Nat) : List (List Int) := (List.range xss.length).map fun j => rowE xss p (p.idxOf j)
theorem idx_at {p : List Nat} (h : p.Nodup) {k : Nat} (hk : k < p.length) : p.idxOf (p.getD k 0) = k := by
  have : p.getD k 0 = p[k] := by simp [List.getD, hk]
  rw [this]
  exact h.idxOf_getElem k hk
theorem idx_lt {p : List Nat} {n : Nat} (h : p.Perm (List.range n)) {j : Nat} (hj : j < n) : p.idxOf j < p.length := List.idxOf_lt_length_of_mem (h.mem_iff.2 (List.mem_range.2 hj))
theorem at_idx {p : List Nat} {j : Nat} (h : p.idxOf j < p.length) : p.getD (p.idxOf j) 0 = j := by
  have : p.getD (p.idxOf j) 0 = p[p.idxOf j] := by simp [List.getD, h]
  rw [this]
  exact List.getElem_idxOf h
theorem doneR_step {xss : List (List Int)} {p : List Nat} (hp : p.Perm (List.range xss.length)) {k : Nat} (hk : k < p.length) : tabV xss.length (updV (doneR xss p k) (p.getD k 0) (ic (rowE xss p k))) = tabV xss.length (doneR xss p (k + 1)) := by
  have hn : p.Nodup := hp.nodup_iff.2 List.nodup_range
  apply tabV_ext
  intro i hi
  unfold updV doneR
  by_cases e : i = p.getD k 0
  · subst e
    rw [if_pos rfl, idx_at hn hk, if_pos (by omega)]
  · rw [if_neg e]
    have hne : p.idxOf i ≠ k := fun h => e (by rw [← h, at_idx (idx_lt hp hi)])
    by_cases h : p.idxOf i < k
    · rw [if_pos h, if_pos (by omega)]
    · rw [if_neg h, if_neg (by omega)]
theorem doneR_all {xss : List (List Int)} {p : List Nat} (hp : p.Perm (List.range xss.length)) : tabV xss.length (doneR xss p p.length) = (endsF xss p).map ic := by
  apply tabV_of (by simp [endsF])
  intro i hi
  have hi' : i < xss.length := by simpa [endsF] using hi
  unfold doneR endsF
  rw [if_pos (idx_lt hp hi')]
  simp
/-- One of them is stored where it stood; the others lie as they did. -/
theorem OwnV.put2 {vs : List (Option Addr × Nat)} {B C : Nat} {w w' : World} {v : Value} {css : List (List Value)} (h : OwnV vs B C w v css) (h' : OwnV vs B C w' v css) {g cap : Nat} (hv : v = .slice (some ⟨g, 0, none⟩) css.length cap) {m : Nat} (hm : m < css.length) {A' : Option Addr} {c' n' : Nat} {cs : List Value} (hn' : n' = cs.length)
    (hnew : w'.ownsRow C 3 1 (.slice A' n' c') n' cs) (hg : ∀ a, A' = some a → w.heap.size ≤ a.block) :
    OwnV (vs.set m (A', c')) B C (w'.setCell ⟨g, m, none⟩ (.slice A' n' c')) v (css.set m cs) ∧ (∃ u, w'.cell? ⟨g, m, none⟩ = some u) ∧ w'.frozen? ⟨g, m, none⟩ = false ∧ B ≤ g ∧ g < w.heap.size := by
  subst hn'
  have hlt := fun i hi a ha => h.lt i hi (a := a) ha
  have hself := (own_type (g := g) h.2.1 (by rw [hv]; rfl)).1
  obtain ⟨h1, h2, h3, h4⟩ := h'
  subst hv
  obtain ⟨hgl, hgB, _, htp⟩ := own_type (g := g) h2 rfl
  obtain ⟨g', cur, hA, hgb, hB, hn, hc, hs, ht⟩ := own_block h2 (by omega)
  injection hA with hA
  injection hA with hA _ _
  subst hA
  have hcell : cur[m]? = some (.slice (vs[m]'(by omega)).1 css[m].length (vs[m]'(by omega)).2) := by
    have := congrArg (fun l : List Value => l[m]?) ht
    simp only [Nat.mul_one] at this
    rw [List.getElem?_take, if_pos hm, Array.getElem?_toList, List.getElem?_eq_getElem (by rw [slC_len h1]; exact hm), slC_get h1 hm] at this
    exact this
  refine ⟨⟨by simp [h1], ?_, ?_, ?_⟩, ⟨_, by rw [hB.cell]; exact hcell⟩, hB.frozen m, hgB, hself⟩
  · rw [← slC_set vs css h1 m]
    have hset := hB.set m (.slice A' cs.length c')
    have := hset.own (base := B) (n := css.length) (c := cap) (size := 1) hgb (by simpa using hs) hn hc (by simp only [Array.size_setIfInBounds]; omega)
    rw [Nat.mul_one, take_setv (cs := slC vs css) (show cur.toList.take css.length = slC vs css by rw [Nat.mul_one] at ht; exact ht) hm] at this
    simpa using this
  · intro i hi hiv
    simp only [List.length_set] at hi hiv
    have hstep : ∀ {u : Value} {n : Nat} {xs : List Value}, w'.ownsRow C 3 1 u n xs → (w'.setCell ⟨g, m, none⟩ (.slice A' cs.length c')).ownsRow C 3 1 u n xs := fun hu => own_to hu fun q hq _ _ => by
      obtain ⟨_, _, c1, t1⟩ := own_type hu hq
      exact Below.heap_setCell _ _ _ _ (type_ne t1 hB (by decide))
    by_cases e : m = i
    · subst e
      simp only [List.getElem_set_self]
      exact hstep hnew
    · rw [List.getElem_set_ne e, List.getElem_set_ne e]
      exact hstep (h3 i hi hiv)
  · intro i j hi hj a b hne ha hb'
    simp only [List.length_set] at hi hj
    have hfar : ∀ q (hq : q < vs.length) (b : Addr), vs[q].1 = some b → ∀ a', A' = some a' → a'.block ≠ b.block := fun q hq b hb a' ha' e' => by
      have := (hlt q hq b hb).1
      have := hg a' ha'
      omega
    by_cases ei : m = i
    · subst ei
      rw [List.getElem_set_self] at ha
      rw [List.getElem_set_ne hne] at hb'
      exact hfar j hj b hb' a ha
    · rw [List.getElem_set_ne ei] at ha
      by_cases ej : m = j
      · subst ej
        rw [List.getElem_set_self] at hb'
        exact fun e' => hfar i hi a ha b hb' e'.symm
      · rw [List.getElem_set_ne ej] at hb'
        exact h4 i j hi hj a b hne ha hb'
/-- A list of lists stays where one other block of numbers is written. -/
theorem OwnV.touch {vs : List (Option Addr × Nat)} {B C gf : Nat} {w w' : World} {v : Value} {css : List (List Value)} {cf : Array Value} (h : OwnV vs B C w v css) (ht : Touch gf (gf + 1) w w') (hf : BlockIs w gf 3 cf) (hne : ∀ i (hi : i < vs.length) a, vs[i].1 = some a → a.block ≠ gf) : OwnV vs B C w' v css := by
  obtain ⟨h1, h2, h3, h4⟩ := h
  have far : ∀ g, g < w.heap.size → g ≠ gf → w'.heap[g]? = w.heap[g]? := fun g hgl hne => ht.block g hgl (by omega)
  refine ⟨h1, own_to h2 fun g hg _ hgl => far g hgl fun e => ?_, fun i a b => own_to (h3 i a b) fun g hg _ hgl => far g hgl fun e => ?_, h4⟩
  · subst e
    obtain ⟨_, _, c1, t1⟩ := own_type h2 hg
    exact type_ne t1 hf (by decide) rfl
  · cases hv : vs[i].1 with
    | none => rw [hv] at hg; cases hg
    | some ad =>
      rw [hv] at hg
      have hb : ad.block = g := by injection hg
      exact hne i b ad hv (by omega)
/-- One number more behind a slice of one's own: what lay below R stays. -/
theorem app_one {R : Nat} {W : World} {v : Value} {n : Nat} {xs : List Value} (hown : W.ownsRow R 3 1 v n xs) (hR : R ≤ W.heap.size) (x : Int) (hn : n ≤ 1000) :
    ∃ v' W', (Builtin.append_ #[29, 29] 29 #[v, .slice (some ⟨W.heap.size, 0, none⟩) 1 1]).run Try.prog (W.alloc (.cells #[.int .i64 x] 3)) = .ok v' W' ∧ W'.ownsRow R 3 1 v' (n + 1) (xs ++ [.int .i64 x]) ∧ Below R W W' := by
  have hb := (Below.refl R W).alloc hR (.cells #[.int .i64 x] 3)
  have ho : (W.alloc (.cells #[.int .i64 x] 3)).ownsRow R 3 1 v n xs := own_to hown fun g _ _ hg => ((Below.refl W.heap.size W).alloc (Nat.le_refl _) _).block g hg
  obtain ⟨i, hi, hz⟩ := Option.map_eq_some_iff.1 infoIS
  injection hz with hz0 hz
  injection hz with hz1 hz2
  obtain ⟨v', W', hr, h2, h3, _⟩ := append_at (P := Try.prog) (W.alloc (.cells #[.int .i64 x] 3)) R 29 29 3 i (.int .i64 0) 1 8 Try.underlying29 hi hz0 hz1 hz2 rfl (by decide) v n xs ho ⟨W.heap.size, 0, none⟩ 1 1 [.int .i64 x] rfl
    (cell_one_new W _ 3)
    (by intro u hu; simp at hu; subst hu; rfl) (by omega) (by unfold maxLen; omega) (by omega) (by simp; omega)
  exact ⟨v', W', hr, h2, app_grown (Below.refl R W) hR hown h3⟩
end Go.Proofs.Ytdhndoccdfbefaa
