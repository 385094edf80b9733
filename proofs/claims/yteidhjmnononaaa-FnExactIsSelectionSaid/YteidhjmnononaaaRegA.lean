/- A drawing region whose operations may make memory: as RegY, with values that are chosen as it runs (addresses); two new variables. -/
import Derived.Test.YteidhjmnononaaaRegY
import Derived.Test.YteidhjmnononaaaBlo
namespace Go.Proofs.Yteidhjmnononaaa
section
variable {P : Program} {ops : Array Oper} {Q : Exit → Act → World → Prop}
def StepA {γ : Type} (P : Program) (S : γ → Array Bool → World → Prop) (val : γ → Nat → Value) (x : γ) (L : Array Bool) (i : Nat) (o : Oper) (a : Act) (w : World) : Prop :=
  (∃ x' w', (∀ j, L.getD j true = true → val x' j = val x j) ∧ (execOp a.eval o).run P w = .ok (.value (val x' i)) w' ∧ S x' (L.setIfInBounds i true) w') ∨
  (∃ f args, (execOp a.eval o).run P w = .ok (.enter f args) w ∧ Calls P f args w fun e w' => ∃ x', (∀ j, L.getD j true = true → val x' j = val x j) ∧ e = .returned (val x' i) ∧ S x' (L.setIfInBounds i true) w') ∨
  (∃ w', o.dst = none ∧ (execOp a.eval o).run P w = .ok .skip w' ∧ S x (L.setIfInBounds i true) w')
/-- As wp_region_detY; what an operation yields may be chosen when it runs (an address). -/
theorem wp_region_detA {γ : Type} {id : Nat} {tm0 : Array Value} {df : List Deferred} {w : World} (hm : P.follows .mixedOrders = true) (S : γ → Array Bool → World → Prop) (val : γ → Nat → Value) (x0 : γ) (hback : backBB ops = true) (hown : ownDst ops tm0.size = true)
    (h0 : S x0 (Array.replicate ops.size false) w.drew)
    (hdone : ∀ (x : γ) (L : Array Bool) (tm : Array Value) (w : World), (∀ i, i < ops.size → L.getD i true = true) → S x L w → tm.size = tm0.size → (∀ t, ((List.range ops.size).all fun j => !((ops[j]?).bind (·.dst) == some t)) = true → tm.getD t undef = tm0.getD t undef) → (∀ j o d, ops[j]? = some o → o.dst = some d → tm.getD d undef = val x j) → Q .normal ⟨tm, df⟩ w)
    (hstep : ∀ (x : γ) (L : Array Bool) (a : Act) (w : World) (i : Nat) (o : Oper), L.size = ops.size → ops[i]? = some o → L.getD i true = false → (∀ j, edgeB ops i j = true → L.getD j true = true) → (∀ j, edgeB ops j i = true → L.getD j true = false) → S x L w → (∀ t, ((List.range ops.size).all fun j => !((ops[j]?).bind (·.dst) == some t)) = true → a.tmps.getD t undef = tm0.getD t undef) →
      (∀ j oj d, edgeB ops i j = true → ops[j]? = some oj → oj.dst = some d → a.tmps.getD d undef = val x j) →
      (∀ j oj d, edgeB ops j i = true → ops[j]? = some oj → oj.dst = some d → a.tmps.getD d undef = tm0.getD d undef) → Region.wanted o (yielded ops a.tmps) = true ∧ StepA P S val x L i o a w) :
    (Code.region id ops true).wp P Q ⟨tm0, df⟩ w := by
  refine wp_region_invB hm (fun L a w => ∃ x, S x L w ∧ a.defers = df ∧ a.tmps.size = tm0.size ∧ (∀ t, ((List.range ops.size).all fun j => !((ops[j]?).bind (·.dst) == some t)) = true → a.tmps.getD t undef = tm0.getD t undef) ∧ (∀ j o d, ops[j]? = some o → o.dst = some d → L.getD j true = true → a.tmps.getD d undef = val x j) ∧ (∀ j o d, ops[j]? = some o → o.dst = some d → L.getD j true = false → a.tmps.getD d undef = tm0.getD d undef)) (back_ofB hback) ?_ ?_ ?_
  · refine ⟨x0, h0, rfl, rfl, fun _ _ => rfl, fun j o d ho _ hl => ?_, fun _ _ _ _ _ _ => rfl⟩
    have hj : j < ops.size := (Array.getElem?_eq_some_iff.1 ho).1
    simp [Array.getD_eq_getD_getElem?, hj] at hl
  · intro L a w ⟨x, hS, hdf, hsz, hlow, hval, _⟩ hall
    obtain ⟨tm, df'⟩ := a
    simp only at hdf hsz
    subst hdf
    exact hdone x L tm w hall hS hsz hlow (fun j o d ho hd => hval j o d ho hd (hall j (Array.getElem?_eq_some_iff.1 ho).1))
  · intro L a w i o hC ⟨x, hS, hdf, hsz, hlow, hval, hold⟩ ho hl hd
    obtain ⟨hg, hst⟩ := hstep x L a w i o hC.1 ho hl (fun j he => dep_of ho hd he) (fun j he => hC.no he hl) hS hlow (fun j oj d he hoj hdj => hval j oj d hoj hdj (dep_of ho hd he)) (fun j oj d he hoj hdj => hold j oj d hoj hdj (hC.no he hl))
    have next : ∀ x' w', (∀ j, L.getD j true = true → val x' j = val x j) → S x' (L.setIfInBounds i true) w' → S x' (L.setIfInBounds i true) w' ∧ (a.put o.dst (val x' i)).defers = df ∧ (a.put o.dst (val x' i)).tmps.size = tm0.size ∧ (∀ t, ((List.range ops.size).all fun j => !((ops[j]?).bind (·.dst) == some t)) = true → (a.put o.dst (val x' i)).tmps.getD t undef = tm0.getD t undef) ∧ (∀ j o' d, ops[j]? = some o' → o'.dst = some d → (L.setIfInBounds i true).getD j true = true → (a.put o.dst (val x' i)).tmps.getD d undef = val x' j) ∧ (∀ j o' d, ops[j]? = some o' → o'.dst = some d → (L.setIfInBounds i true).getD j true = false → (a.put o.dst (val x' i)).tmps.getD d undef = tm0.getD d undef) := by
      intro x' w' hag hS'
      cases hod : o.dst with
      | none =>
        refine ⟨hS', hdf, hsz, hlow, fun j o' d ho' hd' hl' => ?_, fun j o' d ho' hd' hl' => ?_⟩
        · have hne : i ≠ j := fun e => by subst e; rw [ho] at ho'; injection ho' with ho'; subst ho'; rw [hod] at hd'; cases hd'
          rw [getD_set_true, if_neg (fun h => hne h.1)] at hl'
          rw [hag j hl']; exact hval j o' d ho' hd' hl'
        · have hne : i ≠ j := fun e => by subst e; rw [ho] at ho'; injection ho' with ho'; subst ho'; rw [hod] at hd'; cases hd'
          rw [getD_set_true, if_neg (fun h => hne h.1)] at hl'
          exact hold j o' d ho' hd' hl'
      | some d0 =>
        have hput : ∀ t, (a.put (some d0) (val x' i)).tmps.getD t undef = if d0 = t ∧ t < a.tmps.size then val x' i else a.tmps.getD t undef := by
          intro t
          unfold Act.put
          simp only [Array.getD_eq_getD_getElem?, Array.getElem?_setIfInBounds]
          by_cases e : d0 = t
          · subst e
            by_cases h : d0 < a.tmps.size
            · simp [h]
            · simp [h]
          · simp [e]
        refine ⟨hS', hdf, by simp [Act.put, hsz], fun t ht => ?_, fun j o' d ho' hd' hl' => ?_, fun j o' d ho' hd' hl' => ?_⟩
        · rw [hput, if_neg (fun h => ?_)]
          · exact hlow t ht
          · have := List.all_eq_true.1 ht i (List.mem_range.2 (Array.getElem?_eq_some_iff.1 ho).1)
            rw [ho] at this
            simp [hod, h.1] at this
        · rw [hput]
          by_cases e : d0 = d
          · subst e
            have hij := ownDst_inj hown ho hod ho' hd'
            subst hij
            rw [if_pos ⟨rfl, by rw [hsz]; exact ownDst_lt hown ho hod⟩]
          · rw [if_neg (fun h => e h.1)]
            have hne : i ≠ j := fun e' => by subst e'; rw [ho] at ho'; injection ho' with ho'; subst ho'; rw [hod] at hd'; injection hd' with hd'; exact e hd'
            rw [getD_set_true, if_neg (fun h => hne h.1)] at hl'
            rw [hag j hl']; exact hval j o' d ho' hd' hl'
        · have hli : i ≠ j := fun e => by
            subst e
            have hC1 : i < L.size := by rw [hC.1]; exact (Array.getElem?_eq_some_iff.1 ho).1
            rw [getD_set_true, if_pos ⟨rfl, hC1⟩] at hl'; cases hl'
          rw [getD_set_true, if_neg (fun h => hli h.1)] at hl'
          have hdd : d0 ≠ d := fun e => by subst e; exact hli (ownDst_inj hown ho' hd' ho hod)
          rw [hput, if_neg (fun h => hdd h.1)]
          exact hold j o' d ho' hd' hl'
    rcases hst with ⟨x', w', hag, hr, hS'⟩ | ⟨f, args, hr, hc⟩ | ⟨w', hnd, hr, hS'⟩
    · exact wpOp_valueW ho hg hr ⟨x', next x' w' hag hS'⟩
    · refine wpOp_enterW ho hg hr (hc.mono ?_)
      rintro e w' ⟨x', hag, rfl, hS'⟩
      exact ⟨_, rfl, x', next x' w' hag hS'⟩
    · refine wpOp_skipY ho hg hr ⟨x, ?_⟩
      have h := next x w' (fun _ _ => rfl) hS'
      rw [hnd] at h ⊢
      exact h
end
open Go.RowKit
theorem listed_ne {L : Array Bool} {i j : Nat} (h : i ≠ j) : (L.setIfInBounds i true).getD j true = L.getD j true := by rw [getD_set_true, if_neg (fun q => h q.1)]
theorem listed_at {L : Array Bool} {i : Nat} (h : i < L.size) : (L.setIfInBounds i true).getD i true = true := by rw [getD_set_true, if_pos ⟨rfl, h⟩]
/-- Two new variables of one type: where they lie, and whether they were made (a1, a2) and written (s1, s2). -/
def Two (wr : World) (t : TypeId) (Z A1 A2 : Array Value) (a1 a2 s1 s2 : Nat) (x : Nat × Nat) (L : Array Bool) (W : World) : Prop :=
  Below wr.heap.size wr W ∧ (L.getD a1 true = true → wr.heap.size ≤ x.1 ∧ BlockIs W x.1 t (if L.getD s1 true = true then A1 else Z)) ∧
  (L.getD a2 true = true → wr.heap.size ≤ x.2 ∧ BlockIs W x.2 t (if L.getD s2 true = true then A2 else Z)) ∧ (L.getD a1 true = true → L.getD a2 true = true → x.1 ≠ x.2)
section
variable {wr : World} {t : TypeId} {Z A1 A2 : Array Value} {a1 a2 s1 s2 : Nat} {x : Nat × Nat} {L : Array Bool} {W W' : World}
theorem Two.below (h : Two wr t Z A1 A2 a1 a2 s1 s2 x L W) (hb : Below W.heap.size W W') : Two wr t Z A1 A2 a1 a2 s1 s2 x L W' :=
  ⟨h.1.trans (hb.mono h.1.size), fun e => ⟨(h.2.1 e).1, (h.2.1 e).2.below hb⟩, fun e => ⟨(h.2.2.1 e).1, (h.2.2.1 e).2.below hb⟩, h.2.2.2⟩
theorem Two.other (h : Two wr t Z A1 A2 a1 a2 s1 s2 x L W) {i : Nat} (h1 : i ≠ a1) (h2 : i ≠ a2) (h3 : i ≠ s1) (h4 : i ≠ s2) : Two wr t Z A1 A2 a1 a2 s1 s2 x (L.setIfInBounds i true) W := by
  unfold Two
  rw [listed_ne h1, listed_ne h2, listed_ne h3, listed_ne h4]
  exact h
theorem Two.new1 (h : Two wr t Z A1 A2 a1 a2 s1 s2 x L W) (d2 : a1 ≠ a2) (d3 : a1 ≠ s1) (d4 : a1 ≠ s2) (hs : L.getD s1 true = false) : Two wr t Z A1 A2 a1 a2 s1 s2 (W.heap.size, x.2) (L.setIfInBounds a1 true) (W.alloc (.cells Z t)) := by
  have hb := (Below.refl W.heap.size W).alloc (Nat.le_refl _) (.cells Z t)
  refine ⟨h.1.trans (hb.mono h.1.size), fun _ => ⟨h.1.size, ?_⟩, fun e => ?_, fun _ e => ?_⟩
  · rw [listed_ne d3, hs, if_neg (by decide)]
    exact BlockIs.new W t Z
  · rw [listed_ne d2] at e
    rw [listed_ne d4]
    exact ⟨(h.2.2.1 e).1, (h.2.2.1 e).2.below hb⟩
  · rw [listed_ne d2] at e
    have := (Array.getElem?_eq_some_iff.1 (h.2.2.1 e).2).1
    show W.heap.size ≠ x.2
    omega
theorem Two.new2 (h : Two wr t Z A1 A2 a1 a2 s1 s2 x L W) (d2 : a2 ≠ a1) (d3 : a2 ≠ s1) (d4 : a2 ≠ s2) (hs : L.getD s2 true = false) : Two wr t Z A1 A2 a1 a2 s1 s2 (x.1, W.heap.size) (L.setIfInBounds a2 true) (W.alloc (.cells Z t)) := by
  have hb := (Below.refl W.heap.size W).alloc (Nat.le_refl _) (.cells Z t)
  refine ⟨h.1.trans (hb.mono h.1.size), fun e => ?_, fun _ => ⟨h.1.size, ?_⟩, fun e _ => ?_⟩
  · rw [listed_ne d2] at e
    rw [listed_ne d3]
    exact ⟨(h.2.1 e).1, (h.2.1 e).2.below hb⟩
  · rw [listed_ne d4, hs, if_neg (by decide)]
    exact BlockIs.new W t Z
  · rw [listed_ne d2] at e
    have := (Array.getElem?_eq_some_iff.1 (h.2.1 e).2).1
    show x.1 ≠ W.heap.size
    omega
theorem Two.put1 (h : Two wr t Z A1 A2 a1 a2 s1 s2 x L W) (d2 : s1 ≠ a1) (d3 : s1 ≠ a2) (d4 : s1 ≠ s2) (hsz : s1 < L.size) (ha : L.getD a1 true = true) (hb : Below wr.heap.size W W') (hB : BlockIs W' x.1 t A1) (ho : ∀ g cs, g ≠ x.1 → BlockIs W g t cs → BlockIs W' g t cs) : Two wr t Z A1 A2 a1 a2 s1 s2 x (L.setIfInBounds s1 true) W' := by
  unfold Two
  rw [listed_ne d2, listed_ne d3, listed_ne d4, listed_at hsz, if_pos rfl]
  exact ⟨h.1.trans hb, fun e => ⟨(h.2.1 e).1, hB⟩, fun e => ⟨(h.2.2.1 e).1, ho _ _ (fun q => h.2.2.2 ha e q.symm) (h.2.2.1 e).2⟩, h.2.2.2⟩
theorem Two.put2 (h : Two wr t Z A1 A2 a1 a2 s1 s2 x L W) (d2 : s2 ≠ a1) (d3 : s2 ≠ a2) (d4 : s2 ≠ s1) (hsz : s2 < L.size) (ha : L.getD a2 true = true) (hb : Below wr.heap.size W W') (hB : BlockIs W' x.2 t A2) (ho : ∀ g cs, g ≠ x.2 → BlockIs W g t cs → BlockIs W' g t cs) : Two wr t Z A1 A2 a1 a2 s1 s2 x (L.setIfInBounds s2 true) W' := by
  unfold Two
  rw [listed_ne d2, listed_ne d3, listed_ne d4, listed_at hsz, if_pos rfl]
  exact ⟨h.1.trans hb, fun e => ⟨(h.2.1 e).1, ho _ _ (fun q => h.2.2.2 e ha q) (h.2.1 e).2⟩, fun e => ⟨(h.2.2.1 e).1, hB⟩, h.2.2.2⟩
theorem three_set {B g : Nat} {y0 y1 y2 v0 v1 v2 : Value} (h : BlockIs W g t #[y0, y1, y2]) (hg : B ≤ g) :
    Below B W (((W.setCell ⟨g, 0, none⟩ v0).setCell ⟨g, 1, none⟩ v1).setCell ⟨g, 2, none⟩ v2) ∧ BlockIs (((W.setCell ⟨g, 0, none⟩ v0).setCell ⟨g, 1, none⟩ v1).setCell ⟨g, 2, none⟩ v2) g t #[v0, v1, v2] ∧
    ∀ g' cs, g' ≠ g → BlockIs W g' t cs → BlockIs (((W.setCell ⟨g, 0, none⟩ v0).setCell ⟨g, 1, none⟩ v1).setCell ⟨g, 2, none⟩ v2) g' t cs := by
  refine ⟨(((Below.refl _ _).setCell (p := ⟨g, 0, none⟩) hg _).setCell (p := ⟨g, 1, none⟩) hg _).setCell (p := ⟨g, 2, none⟩) hg _, ?_, fun g' cs hne hk => ((hk.away hne _ _).away hne _ _).away hne _ _⟩
  exact ((h.set 0 v0).set 1 v1).set 2 v2
end
end Go.Proofs.Yteidhjmnononaaa
