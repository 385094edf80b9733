/- Slices of slices of ints that are being made: one more behind them, one more number behind one of them. -/
import Derived.Test.YteidhjmnononaaaSegS
import Derived.Test.YteidhjmnononaaaAppW
namespace Go.Proofs.Yteidhjmnononaaa
open Go.RowKit
section
variable {w w' w1 : World} {B : Nat} {e : TypeId} {size : Nat} {v : Value} {n : Nat} {xs : List Value}
theorem own_to (h : w.ownsRow B e size v n xs) (hk : ∀ g, v.ownBlock = some g → B ≤ g → g < w.heap.size → w'.heap[g]? = w.heap[g]?) : w'.ownsRow B e size v n xs := by
  refine ⟨h.1, ?_⟩
  rcases h.2 with hn | ⟨g, cap, cur, hv, hB, hg, r⟩
  · exact .inl hn
  · exact .inr ⟨g, cap, cur, hv, hB, (hk g (by rw [hv]; rfl) hB (Array.getElem?_eq_some_iff.1 hg).1).trans hg, r⟩
theorem own_blw (h : w.ownsRow B e size v n xs) (hb : Below w.heap.size w w') : w'.ownsRow B e size v n xs := own_to h fun g _ _ hg => hb.block g hg
theorem own_low {B' : Nat} (h : w.ownsRow B' e size v n xs) (hB : B ≤ B') : w.ownsRow B e size v n xs :=
  ⟨h.1, h.2.imp id fun ⟨g, cap, cur, hv, hb, r⟩ => ⟨g, cap, cur, hv, Nat.le_trans hB hb, r⟩⟩
/-- The type of the block that a slice owns. -/
theorem own_type (h : w.ownsRow B e size v n xs) {g : Nat} (hg : v.ownBlock = some g) : g < w.heap.size ∧ B ≤ g ∧ ∃ cur, BlockIs w g e cur := by
  rcases h.2 with ⟨hv, _⟩ | ⟨g', cap, cur, hv, hB, hk, _⟩
  · rw [hv] at hg; cases hg
  · rw [hv] at hg
    have : g' = g := by injection hg
    subst this
    exact ⟨(Array.getElem?_eq_some_iff.1 hk).1, hB, cur, hk⟩
theorem type_ne {g g' : Nat} {t t' : TypeId} {cs cs' : Array Value} (h : BlockIs w g t cs) (h' : BlockIs w g' t' cs') (ht : t ≠ t') : g ≠ g' := fun e => by
  subst e
  unfold BlockIs at h h'
  rw [h] at h'
  injection h' with h'
  injection h' with _ h2 _
  exact ht h2
end
/-- A slice of slices of the call's own: where each one lies is known. -/
def OwnV (vs : List (Option Addr × Nat)) (B C : Nat) (w : World) (v : Value) (css : List (List Value)) : Prop := vs.length = css.length ∧ w.ownsRow B 40 1 v css.length (slC vs css) ∧
  (∀ (i : Nat) (h : i < css.length) (h' : i < vs.length), w.ownsRow C 3 1 (.slice vs[i].1 css[i].length vs[i].2) css[i].length css[i]) ∧
  ∀ (i j : Nat) (h : i < vs.length) (h' : j < vs.length) (a b : Addr), i ≠ j → vs[i].1 = some a → vs[j].1 = some b → a.block ≠ b.block
theorem OwnV.nil {B C : Nat} {w : World} {v : Value} (h : w.ownsRow B 40 1 v 0 []) : OwnV [] B C w v [] := ⟨rfl, h, (fun i h => by cases h), fun i j h => by cases h⟩
section
variable {vs : List (Option Addr × Nat)} {B C : Nat} {w w' w1 : World} {v v' : Value} {css : List (List Value)}
theorem OwnV.below (h : OwnV vs B C w v css) (hb : Below w.heap.size w w') : OwnV vs B C w' v css := by
  obtain ⟨h1, h2, h3, h4⟩ := h
  exact ⟨h1, own_blw h2 hb, fun i a b => own_blw (h3 i a b) hb, h4⟩
theorem OwnV.lower {C' : Nat} (h : OwnV vs B C' w v css) (hB : C ≤ C') : OwnV vs B C w v css := by
  obtain ⟨h1, h2, h3, h4⟩ := h
  exact ⟨h1, h2, fun i a b => own_low (h3 i a b) hB, h4⟩
theorem OwnV.seg (h : OwnV vs B C w v css) (hBC : B ≤ C) : ∃ A c, v = .slice A css.length c ∧ SegSS w B w.heap.size A css.length c css := by
  obtain ⟨h1, h2, h3, h4⟩ := h
  obtain ⟨A, c, rfl, hs⟩ := seg_out h2
  exact ⟨A, c, rfl, rfl, vs, h1, hs, fun i a b => Seg.of_own (own_low (h3 i a b) hBC), h4⟩
theorem OwnV.lt (h : OwnV vs B C w v css) (i : Nat) (hi : i < vs.length) {a : Addr} (ha : vs[i].1 = some a) : a.block < w.heap.size ∧ C ≤ a.block := by
  obtain ⟨h1, h2, h3, h4⟩ := h
  have := own_type (g := a.block) (h3 i (by omega) hi) (by rw [ha]; rfl)
  exact ⟨this.1, this.2.1⟩
theorem slC_snoc (vs : List (Option Addr × Nat)) (css : List (List Value)) (A : Option Addr) (c : Nat) (cs : List Value) (h : vs.length = css.length) : slC (vs ++ [(A, c)]) (css ++ [cs]) = slC vs css ++ [.slice A cs.length c] := by
  unfold slC
  rw [List.zipWith_append h]
  rfl
/-- One more slice, which lies where nothing lay, behind them. -/
theorem OwnV.push (h : OwnV vs B C w v css) (hb : Below w.heap.size w w') {g c : Nat} {cs : List Value} (hnew : w'.ownsRow C 3 1 (.slice (some ⟨g, 0, none⟩) cs.length c) cs.length cs) (hg : w.heap.size ≤ g)
    (ho : w1.ownsRow B 40 1 v' (css.length + 1) (slC vs css ++ [.slice (some ⟨g, 0, none⟩) cs.length c])) (hgr : w'.grownBy w1 v.ownBlock) : OwnV (vs ++ [(some ⟨g, 0, none⟩, c)]) B C w1 v' (css ++ [cs]) := by
  have h' := h.below hb
  have hlt := fun i hi a ha => h.lt i hi (a := a) ha
  obtain ⟨h1, h2, h3, h4⟩ := h'
  have hkeep : ∀ {u : Value} {n : Nat} {xs : List Value}, w'.ownsRow C 3 1 u n xs → w1.ownsRow C 3 1 u n xs := fun hu => own_to hu fun q hq _ hql => hgr.block q hql fun e => by
    obtain ⟨_, _, c1, t1⟩ := own_type hu hq
    obtain ⟨_, _, c2, t2⟩ := own_type h2 e.symm
    exact type_ne t1 t2 (by decide) rfl
  refine ⟨by simp [h1], ?_, ?_, ?_⟩
  · rw [slC_snoc _ _ _ _ _ h1]; simpa using ho
  · intro i hi hiv
    by_cases e : i < css.length
    · rw [List.getElem_append_left (by omega), List.getElem_append_left e]
      exact hkeep (h3 i e (by omega))
    · have : i = css.length := by simp at hi; omega
      subst this
      rw [List.getElem_append_right (by omega), List.getElem_append_right (by omega)]
      simp only [h1, Nat.sub_self, List.getElem_cons_zero]
      exact hkeep hnew
  · intro i j hi hj a b hne ha hb'
    by_cases ei : i < vs.length
    · rw [List.getElem_append_left ei] at ha
      by_cases ej : j < vs.length
      · rw [List.getElem_append_left ej] at hb'
        exact h4 i j ei ej a b hne ha hb'
      · have : j = vs.length := by simp at hj; omega
        subst this
        rw [List.getElem_append_right (by omega)] at hb'
        simp only [Nat.sub_self, List.getElem_cons_zero] at hb'
        injection hb' with hb'
        subst hb'
        have := (hlt i ei a ha).1
        show a.block ≠ g
        omega
    · have : i = vs.length := by simp at hi; omega
      subst this
      rw [List.getElem_append_right (by omega)] at ha
      simp only [Nat.sub_self, List.getElem_cons_zero] at ha
      injection ha with ha
      subst ha
      have ej : j < vs.length := by simp at hj; omega
      rw [List.getElem_append_left ej] at hb'
      have := (hlt j ej b hb').1
      show g ≠ b.block
      omega
theorem slC_set (vs : List (Option Addr × Nat)) (css : List (List Value)) (h : vs.length = css.length) (m : Nat) (A : Option Addr) (c : Nat) (cs : List Value) : (slC vs css).set m (.slice A cs.length c) = slC (vs.set m (A, c)) (css.set m cs) := by
  apply List.ext_getElem
  · rw [List.length_set, slC_len h, slC_len (by simpa using h)]; simp
  · intro i h1 h2
    rw [List.length_set, slC_len h] at h1
    rw [slC_get (by simpa using h) (by simpa using h1), List.getElem_set]
    by_cases e : m = i
    · subst e; simp
    · rw [if_neg e, slC_get h h1]
      simp [e]
theorem take_setv {cur : Array Value} {n i : Nat} {cs : List Value} (h : cur.toList.take n = cs) (hi : i < n) (v : Value) : (cur.setIfInBounds i v).toList.take n = cs.set i v := by
  subst h
  apply List.ext_getElem?
  intro j
  by_cases hj : j < n
  · rw [List.getElem?_take, if_pos hj, Array.getElem?_toList, Array.getElem?_setIfInBounds, List.getElem?_set]
    by_cases e : i = j
    · subst e
      by_cases hc : i < cur.size
      · simp [hc]; omega
      · simp [hc]; omega
    · rw [if_neg e, if_neg e, List.getElem?_take, if_pos hj, Array.getElem?_toList]
  · rw [List.getElem?_eq_none (by simp; omega), List.getElem?_eq_none (by simp; omega)]
/-- One of them is made longer, and stored where it stood. -/
theorem OwnV.ext (h : OwnV vs B C w v css) {g cap : Nat} (hv : v = .slice (some ⟨g, 0, none⟩) css.length cap) {m : Nat} (hm : m < css.length) (o : Obj) {A' : Option Addr} {c' : Nat} {cs : List Value}
    (ho : w1.ownsRow C 3 1 (.slice A' cs.length c') cs.length cs) (hgr : (w.alloc o).grownBy w1 (Value.slice (vs[m]'(by have := h.1; omega)).1 css[m].length (vs[m]'(by have := h.1; omega)).2).ownBlock)
    (hob : (Value.slice A' cs.length c').ownBlock = (Value.slice (vs[m]'(by have := h.1; omega)).1 css[m].length (vs[m]'(by have := h.1; omega)).2).ownBlock ∨ (Value.slice A' cs.length c').ownBlock = some (w.alloc o).heap.size) :
    OwnV (vs.set m (A', c')) B C (w1.setCell ⟨g, m, none⟩ (.slice A' cs.length c')) v (css.set m cs) ∧ w1.cell? ⟨g, m, none⟩ = some (.slice (vs[m]'(by have := h.1; omega)).1 css[m].length (vs[m]'(by have := h.1; omega)).2) ∧ w1.frozen? ⟨g, m, none⟩ = false ∧ B ≤ g := by
  have hlt := fun i hi a ha => h.lt i hi (a := a) ha
  obtain ⟨h1, h2, h3, h4⟩ := h
  have hself := h3 m hm (by omega)
  subst hv
  obtain ⟨hgl, hgB, _, htp⟩ := own_type (g := g) h2 rfl
  -- the outer block stays through the append
  have hkeep : ∀ q, q < w.heap.size → (∀ a, (vs[m]'(by omega)).1 = some a → a.block ≠ q) → w1.heap[q]? = w.heap[q]? := fun q hq hne => by
    have hq' : q < (w.alloc o).heap.size := by simp; omega
    have e1 : (w.alloc o).heap[q]? = w.heap[q]? := ((Below.refl w.heap.size w).alloc (Nat.le_refl _) o).block q hq
    refine (hgr.block q hq' fun e => ?_).trans e1
    cases ha : (vs[m]'(by omega)).1 with
    | none => rw [ha] at e; cases e
    | some a =>
      rw [ha] at e
      exact hne a ha (by injection e with e; exact e.symm)
  have hgo : w1.heap[g]? = w.heap[g]? := hkeep g hgl fun a ha e => by
    obtain ⟨_, _, c1, t1⟩ := own_type (g := a.block) hself (by rw [ha]; rfl)
    rw [e] at t1
    exact type_ne t1 htp (by decide) rfl
  have h2' : w1.ownsRow B 40 1 (.slice (some ⟨g, 0, none⟩) css.length cap) css.length (slC vs css) := own_to h2 fun q hq _ _ => by
    have : g = q := by injection hq
    rw [← this]; exact hgo
  obtain ⟨g', cur, hA, hgb, hB, hn, hc, hs, ht⟩ := own_block h2' (by omega)
  injection hA with hA
  injection hA with hA _ _
  subst hA
  have hcell : cur[m]? = some (.slice (vs[m]'(by omega)).1 css[m].length (vs[m]'(by omega)).2) := by
    have := congrArg (fun l : List Value => l[m]?) ht
    simp only [Nat.mul_one] at this
    rw [List.getElem?_take, if_pos hm, Array.getElem?_toList, List.getElem?_eq_getElem (by rw [slC_len h1]; exact hm), slC_get h1 hm] at this
    exact this
  refine ⟨⟨by simp [h1], ?_, ?_, ?_⟩, ?_, hB.frozen m, hgB⟩
  · rw [← slC_set vs css h1 m]
    have hset := hB.set m (.slice A' cs.length c')
    have := hset.own (base := B) (n := css.length) (c := cap) (size := 1) hgb (by simpa using hs) hn hc (by simp only [Array.size_setIfInBounds]; omega)
    rw [Nat.mul_one, take_setv (cs := slC vs css) (show cur.toList.take css.length = slC vs css by rw [Nat.mul_one] at ht; exact ht) hm] at this
    simpa using this
  · intro i hi hiv
    simp only [List.length_set] at hi hiv
    have hstep : ∀ {u : Value} {n : Nat} {xs : List Value}, w1.ownsRow C 3 1 u n xs → (w1.setCell ⟨g, m, none⟩ (.slice A' cs.length c')).ownsRow C 3 1 u n xs := fun hu => own_to hu fun q hq _ _ => by
      obtain ⟨_, _, c1, t1⟩ := own_type hu hq
      exact Below.heap_setCell _ _ _ _ (type_ne t1 hB (by decide))
    by_cases e : m = i
    · subst e
      simp only [List.getElem_set_self]
      exact hstep ho
    · rw [List.getElem_set_ne e, List.getElem_set_ne e]
      refine hstep (own_to (h3 i hi hiv) fun q hq _ hql => hkeep q hql fun a ha e' => ?_)
      cases hb : vs[i].1 with
      | none => rw [hb] at hq; cases hq
      | some b =>
        rw [hb] at hq
        have : b.block = q := by injection hq
        exact h4 m i (by omega) hiv a b e ha hb (by omega)
  · intro i j hi hj a b hne ha hb
    simp only [List.length_set] at hi hj
    have hnew : ∀ q (hq : q < vs.length) (b : Addr), q ≠ m → vs[q].1 = some b → ∀ a', A' = some a' → a'.block ≠ b.block := fun q hq b hqm hb a' ha' e' => by
      rcases hob with e | e
      · rw [ha'] at e
        cases hm' : (vs[m]'(by omega)).1 with
        | none => rw [hm'] at e; cases e
        | some am =>
          rw [hm'] at e
          have : a'.block = am.block := by injection e
          exact h4 m q (by omega) hq am b (fun x => hqm x.symm) hm' hb (by omega)
      · rw [ha'] at e
        have : a'.block = (w.alloc o).heap.size := by injection e
        have := (hlt q hq b hb).1
        simp at *
        omega
    by_cases ei : m = i
    · subst ei
      rw [List.getElem_set_self] at ha
      rw [List.getElem_set_ne hne] at hb
      exact hnew j hj b (fun x => hne x.symm) hb a ha
    · rw [List.getElem_set_ne ei] at ha
      by_cases ej : m = j
      · subst ej
        rw [List.getElem_set_self] at hb
        exact fun e' => hnew i hi a (fun x => hne x) ha b hb e'.symm
      · rw [List.getElem_set_ne ej] at hb
        exact h4 i j hi hj a b hne ha hb
  · rw [hB.cell]; exact hcell
end
end Go.Proofs.Yteidhjmnononaaa
