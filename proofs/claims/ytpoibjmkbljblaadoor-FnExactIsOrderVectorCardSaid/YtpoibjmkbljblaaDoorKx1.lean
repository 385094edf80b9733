/- Texts joined: RegA RegP EvC EvS EvR Fjb Sht Sro SxS SxT SxB SxO. -/
import Derived.Test.YtpoibjmkbljblaaDoorKb1
import Derived.Test.YtpoibjmkbljblaaDoorKb3
import Derived.Test.YtpoibjmkbljblaaDoorEnds
import Derived.Test.YtpoibjmkbljblaaDoorKb2
import Derived.RegionTactic
import Derived.BigRegion
import Derived.RangeFuncNested
import Derived.Test.YtpoibjmkbljblaaDoorUrP
import Derived.Test.YtpoibjmkbljblaaDoorKb4
import Derived.Test.YtpoibjmkbljblaaDoorSegH
import Derived.Test.YtpoibjmkbljblaaDoorRetBB
set_option linter.unusedSimpArgs false
set_option linter.unusedVariables false
section
namespace Go.Proofs.YtpoibjmkbljblaaDoor
section
variable {P : Program} {ops : Array Oper} {Q : Exit → Act → World → Prop}
def StepA {γ : Type} (P : Program) (S : γ → Array Bool → World → Prop) (val : γ → Nat → Value) (x : γ) (L : Array Bool) (i : Nat) (o : Oper) (a : Act) (w : World) : Prop :=
  (∃ x' w', (∀ j, L.getD j true = true → val x' j = val x j) ∧ (execOp a.eval o).run P w = .ok (.value (val x' i)) w' ∧ S x' (L.setIfInBounds i true) w') ∨
  (∃ f args, (execOp a.eval o).run P w = .ok (.enter f args) w ∧ Calls P f args w fun e w' => ∃ x', (∀ j, L.getD j true = true → val x' j = val x j) ∧ e = .returned (val x' i) ∧ S x' (L.setIfInBounds i true) w') ∨
  (∃ w', o.dst = none ∧ (execOp a.eval o).run P w = .ok .skip w' ∧ S x (L.setIfInBounds i true) w')
/-- As wp_region_detY; what an operation yields may be chosen when it runs (an address). -/
theorem wp_region_detA {γ : Type} {id : Nat} {tm0 : Array Value} {df : List Deferred} {w : World} (hm : P.follows .mixedOrders = true) (S : γ → Array Bool → World → Prop) (val : γ → Nat → Value) (x0 : γ) (hback : backBB ops = true) (hown : ownDst ops tm0.size = true)
    (h0 : S x0 (Array.replicate ops.size false) w.drew)
    (hdone : ∀ (x : γ) (L : Array Bool) (tm : Array Value) (w : World), (∀ i, i < ops.size → L.getD i true = true) → S x L w → tm.size = tm0.size → (∀ t, ((List.range ops.size).all fun j => !((ops[j]?).bind (·.dst) == some t)) = true → tm.getD t undef = tm0.getD t undef) → (∀ j o d, ops[j]? = some o → o.dst = some d → tm.getD d undef = val x j) → Q .normal ⟨tm, df⟩ w)
    (hstep : ∀ (x : γ) (L : Array Bool) (a : Act) (w : World) (i : Nat) (o : Oper), L.size = ops.size → ops[i]? = some o → L.getD i true = false → (∀ j, edgeB ops i j = true → L.getD j true = true) → (∀ j, edgeB ops j i = true → L.getD j true = false) → S x L w → (∀ t, ((List.range ops.size).all fun j => !((ops[j]?).bind (·.dst) == some t)) = true → a.tmps.getD t undef = tm0.getD t undef) →
      (∀ j oj d, edgeB ops i j = true → ops[j]? = some oj → oj.dst = some d → a.tmps.getD d undef = val x j) →
      (∀ j oj d, edgeB ops j i = true → ops[j]? = some oj → oj.dst = some d → a.tmps.getD d undef = tm0.getD d undef) → Region.wanted o (yielded ops a.tmps) = true ∧ StepA P S val x L i o a w) :
    (Code.region id ops true).wp P Q ⟨tm0, df⟩ w := by
  refine wp_region_invB hm (fun L a w => ∃ x, S x L w ∧ a.defers = df ∧ a.tmps.size = tm0.size ∧ (∀ t, ((List.range ops.size).all fun j => !((ops[j]?).bind (·.dst) == some t)) = true → a.tmps.getD t undef = tm0.getD t undef) ∧ (∀ j o d, ops[j]? = some o → o.dst = some d → L.getD j true = true → a.tmps.getD d undef = val x j) ∧ (∀ j o d, ops[j]? = some o → o.dst = some d → L.getD j true = false → a.tmps.getD d undef = tm0.getD d undef)) (back_ofB hback) ?_ ?_ ?_
  · refine ⟨x0, h0, rfl, rfl, fun _ _ => rfl, fun j o d ho _ hl => ?_, fun _ _ _ _ _ _ => rfl⟩
    have hj : j < ops.size := (Array.getElem?_eq_some_iff.1 ho).1
    simp [Array.getD_eq_getD_getElem?, hj] at hl
  · intro L a w ⟨x, hS, hdf, hsz, hlow, hval, _⟩ hall
    obtain ⟨tm, df'⟩ := a
    simp only at hdf hsz
    subst hdf
    exact hdone x L tm w hall hS hsz hlow (fun j o d ho hd => hval j o d ho hd (hall j (Array.getElem?_eq_some_iff.1 ho).1))
  · intro L a w i o hC ⟨x, hS, hdf, hsz, hlow, hval, hold⟩ ho hl hd
    obtain ⟨hg, hst⟩ := hstep x L a w i o hC.1 ho hl (fun j he => dep_of ho hd he) (fun j he => hC.no he hl) hS hlow (fun j oj d he hoj hdj => hval j oj d hoj hdj (dep_of ho hd he)) (fun j oj d he hoj hdj => hold j oj d hoj hdj (hC.no he hl))
    have next : ∀ x' w', (∀ j, L.getD j true = true → val x' j = val x j) → S x' (L.setIfInBounds i true) w' → S x' (L.setIfInBounds i true) w' ∧ (a.put o.dst (val x' i)).defers = df ∧ (a.put o.dst (val x' i)).tmps.size = tm0.size ∧ (∀ t, ((List.range ops.size).all fun j => !((ops[j]?).bind (·.dst) == some t)) = true → (a.put o.dst (val x' i)).tmps.getD t undef = tm0.getD t undef) ∧ (∀ j o' d, ops[j]? = some o' → o'.dst = some d → (L.setIfInBounds i true).getD j true = true → (a.put o.dst (val x' i)).tmps.getD d undef = val x' j) ∧ (∀ j o' d, ops[j]? = some o' → o'.dst = some d → (L.setIfInBounds i true).getD j true = false → (a.put o.dst (val x' i)).tmps.getD d undef = tm0.getD d undef) := by
      intro x' w' hag hS'
      cases hod : o.dst with
      | none =>
        refine ⟨hS', hdf, hsz, hlow, fun j o' d ho' hd' hl' => ?_, fun j o' d ho' hd' hl' => ?_⟩
        · have hne : i ≠ j := fun e => by subst e; rw [ho] at ho'; injection ho' with ho'; subst ho'; rw [hod] at hd'; cases hd'
          rw [getD_set_true, if_neg (fun h => hne h.1)] at hl'
          rw [hag j hl']; exact hval j o' d ho' hd' hl'
        · have hne : i ≠ j := fun e => by subst e; rw [ho] at ho'; injection ho' with ho'; subst ho'; rw [hod] at hd'; cases hd'
          rw [getD_set_true, if_neg (fun h => hne h.1)] at hl'
          exact hold j o' d ho' hd' hl'
      | some d0 =>
        have hput : ∀ t, (a.put (some d0) (val x' i)).tmps.getD t undef = if d0 = t ∧ t < a.tmps.size then val x' i else a.tmps.getD t undef := by
          intro t
          unfold Act.put
          simp only [Array.getD_eq_getD_getElem?, Array.getElem?_setIfInBounds]
          by_cases e : d0 = t
          · subst e
            by_cases h : d0 < a.tmps.size
            · simp [h]
            · simp [h]
          · simp [e]
        refine ⟨hS', hdf, by simp [Act.put, hsz], fun t ht => ?_, fun j o' d ho' hd' hl' => ?_, fun j o' d ho' hd' hl' => ?_⟩
        · rw [hput, if_neg (fun h => ?_)]
          · exact hlow t ht
          · have := List.all_eq_true.1 ht i (List.mem_range.2 (Array.getElem?_eq_some_iff.1 ho).1)
            rw [ho] at this
            simp [hod, h.1] at this
        · rw [hput]
          by_cases e : d0 = d
          · subst e
            have hij := ownDst_inj hown ho hod ho' hd'
            subst hij
            rw [if_pos ⟨rfl, by rw [hsz]; exact ownDst_lt hown ho hod⟩]
          · rw [if_neg (fun h => e h.1)]
            have hne : i ≠ j := fun e' => by subst e'; rw [ho] at ho'; injection ho' with ho'; subst ho'; rw [hod] at hd'; injection hd' with hd'; exact e hd'
            rw [getD_set_true, if_neg (fun h => hne h.1)] at hl'
            rw [hag j hl']; exact hval j o' d ho' hd' hl'
        · have hli : i ≠ j := fun e => by
            subst e
            have hC1 : i < L.size := by rw [hC.1]; exact (Array.getElem?_eq_some_iff.1 ho).1
            rw [getD_set_true, if_pos ⟨rfl, hC1⟩] at hl'; cases hl'
          rw [getD_set_true, if_neg (fun h => hli h.1)] at hl'
          have hdd : d0 ≠ d := fun e => by subst e; exact hli (ownDst_inj hown ho' hd' ho hod)
          rw [hput, if_neg (fun h => hdd h.1)]
          exact hold j o' d ho' hd' hl'
    rcases hst with ⟨x', w', hag, hr, hS'⟩ | ⟨f, args, hr, hc⟩ | ⟨w', hnd, hr, hS'⟩
    · exact wpOp_valueW ho hg hr ⟨x', next x' w' hag hS'⟩
    · refine wpOp_enterW ho hg hr (hc.mono ?_)
      rintro e w' ⟨x', hag, rfl, hS'⟩
      exact ⟨_, rfl, x', next x' w' hag hS'⟩
    · refine wpOp_skipY ho hg hr ⟨x, ?_⟩
      have h := next x w' (fun _ _ => rfl) hS'
      rw [hnd] at h ⊢
      exact h
end
open Go.RowKit
theorem listed_ne {L : Array Bool} {i j : Nat} (h : i ≠ j) : (L.setIfInBounds i true).getD j true = L.getD j true := by rw [getD_set_true, if_neg (fun q => h q.1)]
theorem listed_at {L : Array Bool} {i : Nat} (h : i < L.size) : (L.setIfInBounds i true).getD i true = true := by rw [getD_set_true, if_pos ⟨rfl, h⟩]
/-- Two new variables of one type: where they lie, and whether they were made (a1, a2) and written (s1, s2). -/
def Two (wr : World) (t : TypeId) (Z A1 A2 : Array Value) (a1 a2 s1 s2 : Nat) (x : Nat × Nat) (L : Array Bool) (W : World) : Prop :=
  Below wr.heap.size wr W ∧ (L.getD a1 true = true → wr.heap.size ≤ x.1 ∧ BlockIs W x.1 t (if L.getD s1 true = true then A1 else Z)) ∧
  (L.getD a2 true = true → wr.heap.size ≤ x.2 ∧ BlockIs W x.2 t (if L.getD s2 true = true then A2 else Z)) ∧ (L.getD a1 true = true → L.getD a2 true = true → x.1 ≠ x.2)
section
variable {wr : World} {t : TypeId} {Z A1 A2 : Array Value} {a1 a2 s1 s2 : Nat} {x : Nat × Nat} {L : Array Bool} {W W' : World}
theorem Two.below (h : Two wr t Z A1 A2 a1 a2 s1 s2 x L W) (hb : Below W.heap.size W W') : Two wr t Z A1 A2 a1 a2 s1 s2 x L W' :=
  ⟨h.1.trans (hb.mono h.1.size), fun e => ⟨(h.2.1 e).1, (h.2.1 e).2.below hb⟩, fun e => ⟨(h.2.2.1 e).1, (h.2.2.1 e).2.below hb⟩, h.2.2.2⟩
theorem Two.other (h : Two wr t Z A1 A2 a1 a2 s1 s2 x L W) {i : Nat} (h1 : i ≠ a1) (h2 : i ≠ a2) (h3 : i ≠ s1) (h4 : i ≠ s2) : Two wr t Z A1 A2 a1 a2 s1 s2 x (L.setIfInBounds i true) W := by
  unfold Two
  rw [listed_ne h1, listed_ne h2, listed_ne h3, listed_ne h4]
  exact h
theorem Two.new1 (h : Two wr t Z A1 A2 a1 a2 s1 s2 x L W) (d2 : a1 ≠ a2) (d3 : a1 ≠ s1) (d4 : a1 ≠ s2) (hs : L.getD s1 true = false) : Two wr t Z A1 A2 a1 a2 s1 s2 (W.heap.size, x.2) (L.setIfInBounds a1 true) (W.alloc (.cells Z t)) := by
  have hb := (Below.refl W.heap.size W).alloc (Nat.le_refl _) (.cells Z t)
  refine ⟨h.1.trans (hb.mono h.1.size), fun _ => ⟨h.1.size, ?_⟩, fun e => ?_, fun _ e => ?_⟩
  · rw [listed_ne d3, hs, if_neg (by decide)]
    exact BlockIs.new W t Z
  · rw [listed_ne d2] at e
    rw [listed_ne d4]
    exact ⟨(h.2.2.1 e).1, (h.2.2.1 e).2.below hb⟩
  · rw [listed_ne d2] at e
    have := (Array.getElem?_eq_some_iff.1 (h.2.2.1 e).2).1
    show W.heap.size ≠ x.2
    omega
theorem Two.new2 (h : Two wr t Z A1 A2 a1 a2 s1 s2 x L W) (d2 : a2 ≠ a1) (d3 : a2 ≠ s1) (d4 : a2 ≠ s2) (hs : L.getD s2 true = false) : Two wr t Z A1 A2 a1 a2 s1 s2 (x.1, W.heap.size) (L.setIfInBounds a2 true) (W.alloc (.cells Z t)) := by
  have hb := (Below.refl W.heap.size W).alloc (Nat.le_refl _) (.cells Z t)
  refine ⟨h.1.trans (hb.mono h.1.size), fun e => ?_, fun _ => ⟨h.1.size, ?_⟩, fun e _ => ?_⟩
  · rw [listed_ne d2] at e
    rw [listed_ne d3]
    exact ⟨(h.2.1 e).1, (h.2.1 e).2.below hb⟩
  · rw [listed_ne d4, hs, if_neg (by decide)]
    exact BlockIs.new W t Z
  · rw [listed_ne d2] at e
    have := (Array.getElem?_eq_some_iff.1 (h.2.1 e).2).1
    show x.1 ≠ W.heap.size
    omega
theorem Two.put1 (h : Two wr t Z A1 A2 a1 a2 s1 s2 x L W) (d2 : s1 ≠ a1) (d3 : s1 ≠ a2) (d4 : s1 ≠ s2) (hsz : s1 < L.size) (ha : L.getD a1 true = true) (hb : Below wr.heap.size W W') (hB : BlockIs W' x.1 t A1) (ho : ∀ g cs, g ≠ x.1 → BlockIs W g t cs → BlockIs W' g t cs) : Two wr t Z A1 A2 a1 a2 s1 s2 x (L.setIfInBounds s1 true) W' := by
  unfold Two
  rw [listed_ne d2, listed_ne d3, listed_ne d4, listed_at hsz, if_pos rfl]
  exact ⟨h.1.trans hb, fun e => ⟨(h.2.1 e).1, hB⟩, fun e => ⟨(h.2.2.1 e).1, ho _ _ (fun q => h.2.2.2 ha e q.symm) (h.2.2.1 e).2⟩, h.2.2.2⟩
theorem Two.put2 (h : Two wr t Z A1 A2 a1 a2 s1 s2 x L W) (d2 : s2 ≠ a1) (d3 : s2 ≠ a2) (d4 : s2 ≠ s1) (hsz : s2 < L.size) (ha : L.getD a2 true = true) (hb : Below wr.heap.size W W') (hB : BlockIs W' x.2 t A2) (ho : ∀ g cs, g ≠ x.2 → BlockIs W g t cs → BlockIs W' g t cs) : Two wr t Z A1 A2 a1 a2 s1 s2 x (L.setIfInBounds s2 true) W' := by
  unfold Two
  rw [listed_ne d2, listed_ne d3, listed_ne d4, listed_at hsz, if_pos rfl]
  exact ⟨h.1.trans hb, fun e => ⟨(h.2.1 e).1, ho _ _ (fun q => h.2.2.2 e ha q) (h.2.1 e).2⟩, fun e => ⟨(h.2.2.1 e).1, hB⟩, h.2.2.2⟩
theorem three_set {B g : Nat} {y0 y1 y2 v0 v1 v2 : Value} (h : BlockIs W g t #[y0, y1, y2]) (hg : B ≤ g) :
    Below B W (((W.setCell ⟨g, 0, none⟩ v0).setCell ⟨g, 1, none⟩ v1).setCell ⟨g, 2, none⟩ v2) ∧ BlockIs (((W.setCell ⟨g, 0, none⟩ v0).setCell ⟨g, 1, none⟩ v1).setCell ⟨g, 2, none⟩ v2) g t #[v0, v1, v2] ∧
    ∀ g' cs, g' ≠ g → BlockIs W g' t cs → BlockIs (((W.setCell ⟨g, 0, none⟩ v0).setCell ⟨g, 1, none⟩ v1).setCell ⟨g, 2, none⟩ v2) g' t cs := by
  refine ⟨(((Below.refl _ _).setCell (p := ⟨g, 0, none⟩) hg _).setCell (p := ⟨g, 1, none⟩) hg _).setCell (p := ⟨g, 2, none⟩) hg _, ?_, fun g' cs hne hk => ((hk.away hne _ _).away hne _ _).away hne _ _⟩
  exact ((h.set 0 v0).set 1 v1).set 2 v2
end
end Go.Proofs.YtpoibjmkbljblaaDoor

end
section
namespace Go.Proofs.YtpoibjmkbljblaaDoor
def putsL : List Oper → (Nat → Value) → Nat → Act → Act
  | [], _, _, a => a
  | o :: r, v, j, a => putsL r v (j + 1) (a.put o.dst (v j))
theorem put_size (a : Act) (d : Option Nat) (u : Value) : (a.put d u).tmps.size = a.tmps.size := by
  cases d <;> simp [Act.put]
theorem put_defers (a : Act) (d : Option Nat) (u : Value) : (a.put d u).defers = a.defers := by
  cases d <;> rfl
theorem put_get (a : Act) (d t : Nat) (u : Value) : (a.put (some d) u).tmps.getD t undef = if d = t ∧ t < a.tmps.size then u else a.tmps.getD t undef := by
  unfold Act.put
  simp only [Array.getD_eq_getD_getElem?, Array.getElem?_setIfInBounds]
  by_cases e : d = t
  · subst e
    by_cases h : d < a.tmps.size
    · simp [h]
    · simp [h]
  · simp [e]
theorem puts_same : ∀ (l : List Oper) (v : Nat → Value) (j : Nat) (a : Act), (putsL l v j a).tmps.size = a.tmps.size ∧ (putsL l v j a).defers = a.defers
  | [], _, _, _ => ⟨rfl, rfl⟩
  | o :: r, v, j, a => by
    have h := puts_same r v (j + 1) (a.put o.dst (v j))
    exact ⟨h.1.trans (put_size _ _ _), h.2.trans (put_defers _ _ _)⟩
theorem puts_low (t : Nat) : ∀ (l : List Oper) (v : Nat → Value) (j : Nat) (a : Act), (∀ o ∈ l, o.dst ≠ some t) → (putsL l v j a).tmps.getD t undef = a.tmps.getD t undef
  | [], _, _, _, _ => rfl
  | o :: r, v, j, a, h => by
    have h1 := puts_low t r v (j + 1) (a.put o.dst (v j)) (fun o' ho' => h o' (List.mem_cons_of_mem _ ho'))
    refine h1.trans ?_
    cases hd : o.dst with
    | none => rfl
    | some d =>
      have := h o List.mem_cons_self
      rw [put_get, if_neg (fun q => this (by rw [hd, q.1]))]
theorem puts_hit (d : Nat) : ∀ (l : List Oper) (v : Nat → Value) (j : Nat) (a : Act) (i : Nat) (o : Oper), l[i]? = some o → o.dst = some d → d < a.tmps.size → (∀ i' o', l[i']? = some o' → o'.dst = some d → i' = i) → (putsL l v j a).tmps.getD d undef = v (j + i)
  | [], _, _, _, _, _, h, _, _, _ => by simp at h
  | o :: r, v, j, a, 0, o', h, hd, hlt, hun => by
    have e : o = o' := by simpa using h
    subst e
    have h1 := puts_low d r v (j + 1) (a.put o.dst (v j)) (fun o' ho' hd' => by
      obtain ⟨i, hi, rfl⟩ := List.getElem_of_mem ho'
      have := hun (i + 1) r[i] (by simp [hi]) hd'
      omega)
    refine h1.trans ?_
    rw [hd, put_get, if_pos ⟨rfl, hlt⟩]
    rfl
  | o :: r, v, j, a, i + 1, o', h, hd, hlt, hun => by
    have h1 := puts_hit d r v (j + 1) (a.put o.dst (v j)) i o' (by simpa using h) hd (by rw [put_size]; exact hlt) (fun i' o'' hi' hd' => by
      have := hun (i' + 1) o'' (by simpa using hi') hd'
      omega)
    refine h1.trans ?_
    congr 1
    omega
section
variable {P : Program} {ops : Array Oper} {Q : Exit → Act → World → Prop}
theorem wp_region_detP {γ : Type} {id : Nat} {tm0 : Array Value} {df : List Deferred} {w : World} (hm : P.follows .mixedOrders = true) (S : γ → Array Bool → World → Prop) (val : γ → Nat → Value) (x0 : γ) (hback : backBB ops = true) (hown : ownDst ops tm0.size = true)
    (h0 : S x0 (Array.replicate ops.size false) w.drew)
    (hdone : ∀ (x : γ) (L : Array Bool) (W : World), (∀ i, i < ops.size → L.getD i true = true) → S x L W → Q .normal (putsL ops.toList (val x) 0 ⟨tm0, df⟩) W)
    (hstep : ∀ (x : γ) (L : Array Bool) (a : Act) (w : World) (i : Nat) (o : Oper), L.size = ops.size → ops[i]? = some o → L.getD i true = false → (∀ j, edgeB ops i j = true → L.getD j true = true) → (∀ j, edgeB ops j i = true → L.getD j true = false) → S x L w → (∀ t, ((List.range ops.size).all fun j => !((ops[j]?).bind (·.dst) == some t)) = true → a.tmps.getD t undef = tm0.getD t undef) →
      (∀ j oj d, edgeB ops i j = true → ops[j]? = some oj → oj.dst = some d → a.tmps.getD d undef = val x j) → Region.wanted o (yielded ops a.tmps) = true ∧ StepA P S val x L i o a w) :
    (Code.region id ops true).wp P Q ⟨tm0, df⟩ w := by
  refine wp_region_detA hm S val x0 hback hown h0 ?_ (fun x L a w i o h1 h2 h3 h4 h5 h6 h7 h8 _ => hstep x L a w i o h1 h2 h3 h4 h5 h6 h7 h8)
  intro x L tm W hall hS hsz hlow hval
  have hp := puts_same ops.toList (val x) 0 ⟨tm0, df⟩
  have key : (⟨tm, df⟩ : Act) = putsL ops.toList (val x) 0 ⟨tm0, df⟩ := by
    cases hb : putsL ops.toList (val x) 0 ⟨tm0, df⟩ with | mk tm' df' => ?_
    rw [hb] at hp
    obtain ⟨hp1, hp2⟩ := hp
    simp only at hp1 hp2
    subst hp2
    have ht : tm = tm' := by
      refine arr_of _ _ (by rw [hsz, hp1]) fun t ht => ?_
      have hg : tm'.getD t undef = (putsL ops.toList (val x) 0 ⟨tm0, df'⟩).tmps.getD t undef := by rw [hb]
      rw [hg]
      by_cases hx : ∃ (j : Nat) (o : Oper), ops[j]? = some o ∧ o.dst = some t
      · obtain ⟨j, o, ho, hd⟩ := hx
        rw [hval j o t ho hd, puts_hit t ops.toList (val x) 0 ⟨tm0, df'⟩ j o (by rw [Array.getElem?_toList]; exact ho) hd (by rw [← hp1]; exact ht) (fun i' o' hi' hd' => by
          rw [Array.getElem?_toList] at hi'
          exact ownDst_inj hown ho hd hi' hd'), Nat.zero_add]
      · rw [hlow t (by
          rw [List.all_eq_true]
          intro j _
          cases ho : ops[j]? with
          | none => rfl
          | some o =>
            have : o.dst ≠ some t := fun hd => hx ⟨j, o, ho, hd⟩
            simpa using this), puts_low t ops.toList (val x) 0 ⟨tm0, df'⟩ (fun o ho hd => by
          obtain ⟨j, hj, rfl⟩ := List.getElem_of_mem ho
          exact hx ⟨j, _, by rw [← Array.getElem?_toList]; exact List.getElem?_eq_getElem hj, hd⟩)]
    rw [ht]
  rw [key]
  exact hdone x L W hall hS
end
end Go.Proofs.YtpoibjmkbljblaaDoor

end
section
namespace Go.Proofs.YtpoibjmkbljblaaDoor
open Go.RowKit
/-- Where the numbers lie (2000 less the ranks), and the variable that holds the end vector. -/
def EvIs (rk : Nat → Int) (n gr : Nat) (R : Option Addr) (cR : Nat) (w : World) : Prop := (∃ A c, BlockIs w gr 70 #[.slice A n c, .slice R n cR]) ∧ Row w R (ic ((List.range n).map fun i => 2000 - rk i))
theorem EvIs.below {rk : Nat → Int} {n gr cR : Nat} {R : Option Addr} {w w' : World} (h : EvIs rk n gr R cR w) (hb : Below w.heap.size w w') : EvIs rk n gr R cR w' := ⟨h.1.imp fun _ h => h.imp fun _ h => h.below hb, h.2.below hb⟩
theorem EvIs.grown {rk : Nat → Int} {n gr cR g : Nat} {R : Option Addr} {w w' : World} (h : EvIs rk n gr R cR w) (hg : w.grownBy w' (some g)) (h1 : gr ≠ g) (h2 : ∀ a, R = some a → 0 < n → a.block ≠ g) : EvIs rk n gr R cR w' := by
  refine ⟨h.1.imp fun _ h => h.imp fun _ h => (hg.block gr (show _ < _ from BlockIs.lt h) (fun e => h1 (by injection e with e))).trans h, fun h0 => ?_⟩
  obtain ⟨ad, e1, e2, e3⟩ := h.2 h0
  rw [ic_len] at h0
  have hn : 0 < n := by simpa using h0
  refine ⟨ad, e1, Nat.lt_of_lt_of_le e2 hg.size, fun j u hu => ?_⟩
  have hc := e3 j u hu
  rw [← hc]
  have hbk : (ad.add j).block = ad.block := add_block ad j
  have hh := hg.block (ad.add j).block (by rw [hbk]; exact e2) (fun e => h2 ad e1 hn (by injection e with e; rw [hbk] at e; exact e))
  unfold World.cell?
  rw [hh]
set_option maxRecDepth 100000 in
theorem cmpEv_any {rk : Nat → Int} {n gr cR : Nat} {R : Option Addr} {w : World} (h : EvIs rk n gr R cR w) (hrk : ∀ i, 0 ≤ rk i ∧ rk i ≤ 2000) (x y : Nat) (hx : x < n) (hy : y < n) :
    Calls Tryd.prog 142 #[.int .i64 (x : Int), .int .i64 (y : Int), .pointer (some ⟨gr, 0, none⟩)] w fun e w' => e = .returned (.int .i64 (rk y - rk x)) ∧ Below w.heap.size w w' := by
  obtain ⟨A, c, hb⟩ := h.1
  have d0 := hb.cell 0
  have d1 := hb.cell 1
  simp only [List.getElem?_toArray, List.getElem?_cons_zero, List.getElem?_cons_succ] at d0 d1
  obtain ⟨ad, hA, hcx⟩ := h.2.at_ (k := x) (by rw [ic_len]; simpa using hx)
  subst hA
  obtain ⟨ad', hA', hcy⟩ := h.2.at_ (k := y) (by rw [ic_len]; simpa using hy)
  injection hA' with hA'
  subst hA'
  rw [ic_get _ x (by simpa using hx)] at hcx
  rw [ic_get _ y (by simpa using hy)] at hcy
  simp only [List.getElem_map, List.getElem_range] at hcx hcy
  have b1 := hrk x
  have b2 := hrk y
  have hx0 : (0 : Int) ≤ x := by omega
  have hx1 : (x : Int) < n := by omega
  have hy0 : (0 : Int) ≤ y := by omega
  have hy1 : (y : Int) < n := by omega
  have he : (2000 - rk x) - (2000 - rk y) = rk y - rk x := by omega
  have HE := Lib.hid he
  have hw := IntWalk.i64_in ((2000 - rk x) - (2000 - rk y)) (by omega)
  rw [← HE.out]
  clear h hrk hb he b1 b2
  generalize 2000 - rk x = rx at *
  generalize 2000 - rk y = ry at *
  go_enter Tryd.func142, Tryd.ntmps142
  go_wp2
  go_quiet (fail)
  go_wp2
  go_ret
  exact ⟨rfl, below_drewN (Below.refl _ _) _⟩
end Go.Proofs.YtpoibjmkbljblaaDoor

end
section
namespace Go.Proofs.YtpoibjmkbljblaaDoor
open Go.RowKit Go.Shelf
theorem cells_ofE {w : World} {g : Nat} {cur : Array Value} {n : Nat} {l : List Nat} (hB : BlockIs w g 3 cur) (ht : cur.toList.take n = ic (natI l)) {i x : Nat} (hi : l[i]? = some x) (hn : i < n) : w.cell? ⟨g, i, none⟩ = some (.int .i64 (x : Int)) := by
  rw [hB.cell]
  have h1 : (cur.toList.take n)[i]? = some (.int .i64 (x : Int)) := by
    rw [ht]; unfold ic natI
    simp [hi]
  rw [List.getElem?_take, if_pos hn, Array.getElem?_toList] at h1
  exact h1
theorem ic_setE (l : List Nat) (i x : Nat) : (ic (natI l)).set i (.int .i64 (x : Int)) = ic (natI (l.set i x)) := by
  unfold ic natI
  rw [List.map_set, List.map_set]; rfl
/-- What stands in the block while the sort runs; comparisons may make memory. -/
def SrtEs (w0 w : World) (g n : Nat) (sz : Nat) (l : List Nat) : Prop := ∃ cur, BlockIs w g 3 cur ∧ cur.size = sz ∧ cur.toList.take n = ic (natI l) ∧ w0.grownBy w (some g)
theorem SrtEs.below {w0 w w' : World} {g n sz : Nat} {l : List Nat} (h : SrtEs w0 w g n sz l) (hb : Below w.heap.size w w') : SrtEs w0 w' g n sz l := by
  obtain ⟨cur, h1, h2, h3, h4⟩ := h
  exact ⟨cur, h1.below hb, h2, h3, grown_then_below h4 hb⟩
theorem SrtEs.drew {w0 w : World} {g n sz : Nat} {l : List Nat} (h : SrtEs w0 w g n sz l) (m : Nat) : SrtEs w0 (w.drewN m) g n sz l := h.below (below_drewN (Below.refl _ _) m)
theorem SrtEs.drew1 {w0 w : World} {g n sz : Nat} {l : List Nat} (h : SrtEs w0 w g n sz l) : SrtEs w0 w.drew g n sz l := h.below (Below.refl _ _).drew
theorem SrtEs.set {w0 w : World} {g n sz : Nat} {l : List Nat} (h : SrtEs w0 w g n sz l) (i x : Nat) (hi : i < n) : SrtEs w0 (w.setCell ⟨g, i, none⟩ (.int .i64 (x : Int))) g n sz (l.set i x) := by
  obtain ⟨cur, h1, h2, h3, h4⟩ := h
  exact ⟨_, h1.set i _, by simpa using h2, by rw [take_setv h3 hi, ic_setE], grown_setCell h4 i _⟩
abbrev FCE : Nat := 142
section
variable {rk : Nat → Int} {n0 gr cR : Nat} {R : Option Addr} (hrk : ∀ i, 0 ≤ rk i ∧ rk i ≤ 2000)
include hrk
set_option maxRecDepth 100000 in
set_option maxHeartbeats 4000000 in
theorem insSortE_any (w : World) (hr : EvIs rk n0 gr R cR w) (g cs sz : Nat) (q : List Nat) (hq : ∀ x ∈ q, x < n0) (hup : ∀ k (hk : k < q.length), ∀ a ∈ q.take k, a < q[k]) (hd : q.Nodup) (hl : q.length ≤ 12) (hs : SrtEs w w g q.length sz q) (hA : gr ≠ g ∧ ∀ a, R = some a → 0 < n0 → a.block ≠ g) :
    Calls Tryd.prog 169 #[.slice (some ⟨g, 0, none⟩) q.length cs, .int .i64 0, .int .i64 (q.length : Int), .func (.func FCE) #[] #[.pointer (some ⟨gr, 0, none⟩)]] w fun e w' => e = .returned (.tuple #[]) ∧ SrtEs w w' g q.length sz (joL rk q) := by
  have HCW : Hid (∀ w' : World, w.grownBy w' (some g) → EvIs rk n0 gr R cR w') := fun w' hg => hr.grown hg hA.1 hA.2
  have HUP := Lib.hid hup
  have HS0 : Hid (SrtEs w w g q.length sz (joTo rk q 1 ++ q.drop 1) ∨ q.length = 0) := by
    show _ ∨ _
    rcases joTo_one rk q with h | h
    · rw [h]; exact .inl hs
    · exact .inr (by rw [h]; rfl)
  have hcf : ∀ (args : Array Value) (w1 : World), (callFunc FCE args).run Tryd.prog w1 = .ok (.enter FCE args) w1 := enters_of Tryd.func142 (by kernel_rfl) rfl
  have HS := Lib.hid hs
  have HD0 := Lib.hid hd
  clear hr hs hd hup
  by_cases hq0 : q.length = 0
  · have hql : q = [] := List.eq_nil_of_length_eq_zero hq0
    have HF : Hid (SrtEs w w g q.length sz (joL rk q)) := by
      show SrtEs _ _ _ _ _ _
      have h := HS.out
      rw [hql] at h ⊢
      exact h
    have hlt0 : ¬ (1 : Int) < (q.length : Int) := by omega
    have hqz : (q.length : Int) ≤ 0 := by omega
    clear hq0 hql HS0
    go_enter Tryd.func169, Tryd.ntmps169
    go_wp2
    refine wp_loop_rounds 1 ?_
    rw [rounds_succ]
    go_wp2
    go_end0
    exact ⟨rfl, HF.out⟩
  have HS1 : Hid (SrtEs w w g q.length sz (joTo rk q 1 ++ q.drop 1)) := by
    rcases HS0.out with h | h
    · exact h
    · exact absurd h hq0
  clear HS0 HS
  go_enter Tryd.func169, Tryd.ntmps169
  go_wp2
  go_loopw [8] (fun i wr => ∃ k : Nat, 1 ≤ k ∧ k ≤ q.length ∧ i = .int .i64 (k : Int) ∧ Hid (SrtEs w wr g q.length sz (joTo rk q k ++ q.drop k))) (fun i _ => q.length - (intOf i).toNat)
  case atStart => exact ⟨1, Nat.le_refl _, by omega, rfl, HS1⟩
  case round =>
    obtain ⟨k, hk1, hk2, rfl, HSk⟩ := hrel
    clear HS1
    by_cases hlt : k < q.length
    · have hol := joTo_len rk q k
      have HINS := Lib.hid (joTo_succ (rk := rk) hlt)
      have hxl := hq _ (List.getElem_mem hlt)
      have hout : ∀ a ∈ joTo rk q k, a < n0 := fun a ha => hq a (joTo_mem (by omega) ha)
      have hlow : ∀ a ∈ joTo rk q k, a < q[k] := fun a ha => HUP.out k hlt a ((joTo_perm rk q k (by omega)).mem_iff.1 ha)
      have HSO := Lib.hid (And.intro (joTo_sorted (rk := rk) HD0.out k (by omega)) (joTo_fresh (rk := rk) HD0.out hlt))
      have HD : Hid (q.drop k = q[k] :: q.drop (k + 1)) := List.drop_eq_getElem_cons hlt
      have hdl : (q.drop (k + 1)).length = q.length - (k + 1) := by simp
      generalize joTo rk q k = out at *
      generalize q[k] = x at *
      generalize hrst : q.drop (k + 1) = rest at *
      have HREST := Lib.hid hrst
      clear hrst
      have hol1 : out.length ≤ k := by omega
      have hol2 : k ≤ out.length := by omega
      have hrl : k + 1 + rest.length ≤ q.length := by omega
      have HST : Hid (SrtEs w wr g q.length sz (midL out rest x k)) := by
        show SrtEs _ _ _ _ _ _
        have h := HSk.out
        rw [HD.out] at h
        rwa [← hol, midL_start]
      clear hol hdl HSk
      obtain ⟨wo, rfl⟩ : ∃ wo : World, wo = wr := ⟨_, rfl⟩
      go_wp2
      go_loopw [9] (fun jv wi => ∃ j : Nat, j ≤ k ∧ jv = .int .i64 (j : Int) ∧ Hid (SrtEs w wi g q.length sz (midL out rest x j)) ∧ Hid (∀ i (h : i < out.length), j ≤ i → fB rk x out[i] = true)) (fun jv _ => (intOf jv).toNat)
      case atStart => exact ⟨k, Nat.le_refl _, rfl, HST, fun i h h' => absurd h (by omega)⟩
      case round =>
        obtain ⟨j, hj, rfl, HSJ, HG⟩ := hrel
        clear HST
        by_cases h0 : 0 < j
        · obtain ⟨m, hjm⟩ : ∃ m, j = m + 1 := ⟨j - 1, by omega⟩
          have hmo : m < out.length := by omega
          have hm0 : (0 : Int) ≤ m := by omega
          have hj0 : (0 : Int) ≤ j := by omega
          have hjq : (j : Int) < q.length := by omega
          have hm2 : (m : Int) < q.length := by omega
          have hjm' : (j : Int) - 1 = (m : Int) := by omega
          have dd : decide ((0 : Int) < (j : Int)) = true := decide_eq_true (by omega)
          have hw1 := IntWalk.i64_in ((j : Int) - 1) (by omega)
          obtain ⟨cur, hB, hcs, htk, hgr⟩ := HSJ.out
          have c1 := cells_ofE hB htk (midL_at out rest x (j := j) (by omega)) (by omega)
          have c0 := cells_ofE hB htk (by rw [hjm]; exact midL_prev out rest x (j := m) hmo) (show m < q.length by omega)
          have hym := hout _ (List.getElem_mem hmo)
          have hlm := hlow _ (List.getElem_mem hmo)
          have HCC : Hid (∀ w', Below wr.heap.size wr w' → Calls Tryd.prog FCE #[.int .i64 (x : Int), .int .i64 (out[m] : Int), .pointer (some ⟨gr, 0, none⟩)] w' fun e w'' => e = .returned (.int .i64 (rk out[m] - rk x)) ∧ Below w'.heap.size w' w'') := fun w' hb => cmpEv_any (HCW.out w' (grown_then_below hgr hb)) hrk x out[m] hxl hym
          have HSN : Hid (fB rk x out[m] = decide (rk out[m] - rk x < 0)) := fB_low rk hlm
          have HJM := Lib.hid hjm
          have HX := Lib.hid (And.intro hB (And.intro hcs (And.intro htk hgr)))
          have fz1 := hB.frozen j
          have fz0 := hB.frozen m
          have HC1 := Lib.hid c1
          have HC0 := Lib.hid c0
          have lg : g < wr.heap.size := hB.lt
          clear hB hcs htk hgr hjm hym hlm c1 c0
          by_cases hneg : (rk out[m] - rk x) < 0
          · have HSW := Lib.hid (midL_swap out rest x hmo)
            have HG2 : Hid (∀ i (h : i < out.length), m ≤ i → fB rk x out[i] = true) := fun i h hmi => by
              by_cases e : i = m
              · subst e; rw [HSN.out]; exact decide_eq_true hneg
              · exact HG.out i h (by have := HJM.out; omega)
            have dn : decide ((rk out[m] - rk x) < 0) = true := decide_eq_true hneg
            generalize (rk out[m] - rk x) = gg at *
            generalize out[m] = y at *
            go_wp2
            refine wp_region_detY (by kernel_rfl) (fun (_ : Array Bool) w' => Below wr.heap.size wr w') (fun t => (#[.int .i64 (j : Int), .int .i64 0, .bool true, .bool true, .func (.func FCE) #[] #[.pointer (some ⟨gr, 0, none⟩)], .slice (some ⟨g, 0, none⟩) q.length cs, .int .i64 (j : Int), .pointer (some ⟨g, j, none⟩), .int .i64 (x : Int), .slice (some ⟨g, 0, none⟩) q.length cs, .int .i64 (j : Int), .int .i64 (m : Int), .pointer (some ⟨g, m, none⟩), .int .i64 (y : Int), .int .i64 gg, .bool true, .bool true] : Array Value).getD t undef) (by kernel_rfl) (by kernel_rfl) (Below.refl _ _).drew ?_ ?_
            · intro L tm w' hall hS hsz hlow hval
              have ht : tm = #[.slice (some ⟨g, 0, none⟩) q.length cs, .int .i64 0, .int .i64 (q.length : Int), .func (.func FCE) #[] #[.pointer (some ⟨gr, 0, none⟩)], undef, undef, undef, undef, .int .i64 (k : Int), .int .i64 (j : Int), .int .i64 0, .int .i64 1, .int .i64 (k : Int), .int .i64 (q.length : Int), .bool true, u15, u16, .int .i64 (k : Int), .int .i64 (j : Int), .int .i64 0, .bool true, .bool true, .func (.func FCE) #[] #[.pointer (some ⟨gr, 0, none⟩)], .slice (some ⟨g, 0, none⟩) q.length cs, .int .i64 (j : Int), .pointer (some ⟨g, j, none⟩), .int .i64 (x : Int), .slice (some ⟨g, 0, none⟩) q.length cs, .int .i64 (j : Int), .int .i64 (m : Int), .pointer (some ⟨g, m, none⟩), .int .i64 (y : Int), .int .i64 gg, .bool true, .bool true, u35, u36, u37, u38, u39, u40, u41, u42, u43, u44, u45, u46, u47, u48, u49, u50, u51, u52] := by
                refine arr_of _ _ hsz fun t ht => ?_
                have ht' : t < 53 := ht
                rcases (by omega : t = 0 ∨ t = 1 ∨ t = 2 ∨ t = 3 ∨ t = 4 ∨ t = 5 ∨ t = 6 ∨ t = 7 ∨ t = 8 ∨ t = 9 ∨ t = 10 ∨ t = 11 ∨ t = 12 ∨ t = 13 ∨ t = 14 ∨ t = 15 ∨ t = 16 ∨ t = 17 ∨ t = 18 ∨ t = 19 ∨ t = 20 ∨ t = 21 ∨ t = 22 ∨ t = 23 ∨ t = 24 ∨ t = 25 ∨ t = 26 ∨ t = 27 ∨ t = 28 ∨ t = 29 ∨ t = 30 ∨ t = 31 ∨ t = 32 ∨ t = 33 ∨ t = 34 ∨ t = 35 ∨ t = 36 ∨ t = 37 ∨ t = 38 ∨ t = 39 ∨ t = 40 ∨ t = 41 ∨ t = 42 ∨ t = 43 ∨ t = 44 ∨ t = 45 ∨ t = 46 ∨ t = 47 ∨ t = 48 ∨ t = 49 ∨ t = 50 ∨ t = 51 ∨ t = 52) with rfl | rfl | rfl | rfl | rfl | rfl | rfl | rfl | rfl | rfl | rfl | rfl | rfl | rfl | rfl | rfl | rfl | rfl | rfl | rfl | rfl | rfl | rfl | rfl | rfl | rfl | rfl | rfl | rfl | rfl | rfl | rfl | rfl | rfl | rfl | rfl | rfl | rfl | rfl | rfl | rfl | rfl | rfl | rfl | rfl | rfl | rfl | rfl | rfl | rfl | rfl | rfl | rfl
                · exact hlow 0 (by kernel_rfl)
                · exact hlow 1 (by kernel_rfl)
                · exact hlow 2 (by kernel_rfl)
                · exact hlow 3 (by kernel_rfl)
                · exact hlow 4 (by kernel_rfl)
                · exact hlow 5 (by kernel_rfl)
                · exact hlow 6 (by kernel_rfl)
                · exact hlow 7 (by kernel_rfl)
                · exact hlow 8 (by kernel_rfl)
                · exact hlow 9 (by kernel_rfl)
                · exact hlow 10 (by kernel_rfl)
                · exact hlow 11 (by kernel_rfl)
                · exact hlow 12 (by kernel_rfl)
                · exact hlow 13 (by kernel_rfl)
                · exact hlow 14 (by kernel_rfl)
                · exact hlow 15 (by kernel_rfl)
                · exact hlow 16 (by kernel_rfl)
                · exact hlow 17 (by kernel_rfl)
                · exact hval 0 _ 18 rfl rfl
                · exact hval 1 _ 19 rfl rfl
                · exact hval 2 _ 20 rfl rfl
                · exact hval 3 _ 21 rfl rfl
                · exact hval 4 _ 22 rfl rfl
                · exact hval 5 _ 23 rfl rfl
                · exact hval 6 _ 24 rfl rfl
                · exact hval 7 _ 25 rfl rfl
                · exact hval 8 _ 26 rfl rfl
                · exact hval 9 _ 27 rfl rfl
                · exact hval 10 _ 28 rfl rfl
                · exact hval 11 _ 29 rfl rfl
                · exact hval 12 _ 30 rfl rfl
                · exact hval 13 _ 31 rfl rfl
                · exact hval 14 _ 32 rfl rfl
                · exact hval 15 _ 33 rfl rfl
                · exact hval 16 _ 34 rfl rfl
                · exact hlow 35 (by kernel_rfl)
                · exact hlow 36 (by kernel_rfl)
                · exact hlow 37 (by kernel_rfl)
                · exact hlow 38 (by kernel_rfl)
                · exact hlow 39 (by kernel_rfl)
                · exact hlow 40 (by kernel_rfl)
                · exact hlow 41 (by kernel_rfl)
                · exact hlow 42 (by kernel_rfl)
                · exact hlow 43 (by kernel_rfl)
                · exact hlow 44 (by kernel_rfl)
                · exact hlow 45 (by kernel_rfl)
                · exact hlow 46 (by kernel_rfl)
                · exact hlow 47 (by kernel_rfl)
                · exact hlow 48 (by kernel_rfl)
                · exact hlow 49 (by kernel_rfl)
                · exact hlow 50 (by kernel_rfl)
                · exact hlow 51 (by kernel_rfl)
                · exact hlow 52 (by kernel_rfl)
              subst ht
              clear hlow hval hsz hall
              have HSW1 := Lib.hid (HSJ.out.below hS)
              have c1w : w'.cell? ⟨g, j, none⟩ = some (.int .i64 (x : Int)) := (hS.cell (p := ⟨g, j, none⟩) lg).trans HC1.out
              have c0w : w'.cell? ⟨g, m, none⟩ = some (.int .i64 (y : Int)) := (hS.cell (p := ⟨g, m, none⟩) lg).trans HC0.out
              have f1w : w'.frozen? ⟨g, j, none⟩ = false := (hS.frozen (p := ⟨g, j, none⟩) lg).trans fz1
              have f0w : w'.frozen? ⟨g, m, none⟩ = false := (hS.frozen (p := ⟨g, m, none⟩) lg).trans fz0
              clear hS HCC HC1 HC0 fz1 fz0 HX
              go_wp2
              go_region
              all_goals
                go_wp2
                go_roundw
                case rel =>
                  have hz := (HSW1.out.set j y (by omega)).set m x (by omega)
                  rw [HJM.out, HSW.out, ← HJM.out] at hz
                  exact ⟨m, by omega, by go_num, by first | exact hz | exact hz.drew1, HG2.out⟩
                case measure => simp [intOf]; omega
            · intro L a w' t op _ hop _ _ _ hS hlow hdep _
              have ht : t < 17 := (Array.getElem?_eq_some_iff.1 hop).1
              rcases (by omega : t = 0 ∨ t = 1 ∨ t = 2 ∨ t = 3 ∨ t = 4 ∨ t = 5 ∨ t = 6 ∨ t = 7 ∨ t = 8 ∨ t = 9 ∨ t = 10 ∨ t = 11 ∨ t = 12 ∨ t = 13 ∨ t = 14 ∨ t = 15 ∨ t = 16) with rfl | rfl | rfl | rfl | rfl | rfl | rfl | rfl | rfl | rfl | rfl | rfl | rfl | rfl | rfl | rfl | rfl
              · obtain rfl := Option.some.inj hop
                have e9 : a.tmps[9]?.getD undef = .int .i64 (j : Int) := (Array.getD_eq_getD_getElem? ..).symm.trans (hlow 9 (by kernel_rfl))
                exact ⟨wanted_free rfl, .inl (.inl ⟨w', by simp [execOp, Act.eval, e9, go_sem], hS⟩)⟩
              · obtain rfl := Option.some.inj hop
                have e1 : a.tmps[1]?.getD undef = .int .i64 0 := (Array.getD_eq_getD_getElem? ..).symm.trans (hlow 1 (by kernel_rfl))
                exact ⟨wanted_free rfl, .inl (.inl ⟨w', by simp [execOp, Act.eval, e1, go_sem], hS⟩)⟩
              · obtain rfl := Option.some.inj hop
                have e18 : a.tmps[18]?.getD undef = .int .i64 (j : Int) := (Array.getD_eq_getD_getElem? ..).symm.trans (hdep 0 _ 18 (by kernel_rfl) rfl rfl)
                have e19 : a.tmps[19]?.getD undef = .int .i64 0 := (Array.getD_eq_getD_getElem? ..).symm.trans (hdep 1 _ 19 (by kernel_rfl) rfl rfl)
                exact ⟨wanted_free rfl, .inl (.inl ⟨w', by simp [execOp, Act.eval, e18, e19, h0, go_sem], hS⟩)⟩
              · obtain rfl := Option.some.inj hop
                have e20 : a.tmps[20]?.getD undef = .bool true := (Array.getD_eq_getD_getElem? ..).symm.trans (hdep 2 _ 20 (by kernel_rfl) rfl rfl)
                exact ⟨wanted_free rfl, .inl (.inl ⟨w', by simp [execOp, Act.eval, e20, go_sem], hS⟩)⟩
              · obtain rfl := Option.some.inj hop
                have e3 : a.tmps[3]?.getD undef = .func (.func FCE) #[] #[.pointer (some ⟨gr, 0, none⟩)] := (Array.getD_eq_getD_getElem? ..).symm.trans (hlow 3 (by kernel_rfl))
                exact ⟨wanted_guard (g := 3) (d := 21) (b := true) rfl rfl rfl (hdep 3 _ 21 (by kernel_rfl) rfl rfl), .inl (.inl ⟨w', by simp [execOp, Act.eval, e3, go_sem], hS⟩)⟩
              · obtain rfl := Option.some.inj hop
                have e0 : a.tmps[0]?.getD undef = .slice (some ⟨g, 0, none⟩) q.length cs := (Array.getD_eq_getD_getElem? ..).symm.trans (hlow 0 (by kernel_rfl))
                exact ⟨wanted_guard (g := 3) (d := 21) (b := true) rfl rfl rfl (hdep 3 _ 21 (by kernel_rfl) rfl rfl), .inl (.inl ⟨w', by simp [execOp, Act.eval, e0, go_sem], hS⟩)⟩
              · obtain rfl := Option.some.inj hop
                have e9 : a.tmps[9]?.getD undef = .int .i64 (j : Int) := (Array.getD_eq_getD_getElem? ..).symm.trans (hlow 9 (by kernel_rfl))
                exact ⟨wanted_guard (g := 3) (d := 21) (b := true) rfl rfl rfl (hdep 3 _ 21 (by kernel_rfl) rfl rfl), .inl (.inl ⟨w', by simp [execOp, Act.eval, e9, go_sem], hS⟩)⟩
              · obtain rfl := Option.some.inj hop
                have e23 : a.tmps[23]?.getD undef = .slice (some ⟨g, 0, none⟩) q.length cs := (Array.getD_eq_getD_getElem? ..).symm.trans (hdep 5 _ 23 (by kernel_rfl) rfl rfl)
                have e24 : a.tmps[24]?.getD undef = .int .i64 (j : Int) := (Array.getD_eq_getD_getElem? ..).symm.trans (hdep 6 _ 24 (by kernel_rfl) rfl rfl)
                exact ⟨wanted_guard (g := 3) (d := 21) (b := true) rfl rfl rfl (hdep 3 _ 21 (by kernel_rfl) rfl rfl), .inl (.inl ⟨w', by simp [execOp, Act.eval, e23, e24, hj0, hjq, go_sem], hS⟩)⟩
              · obtain rfl := Option.some.inj hop
                have e25 : a.tmps[25]?.getD undef = .pointer (some ⟨g, j, none⟩) := (Array.getD_eq_getD_getElem? ..).symm.trans (hdep 7 _ 25 (by kernel_rfl) rfl rfl)
                have cw : w'.cell? ⟨g, j, none⟩ = some (.int .i64 (x : Int)) := (hS.cell (p := ⟨g, j, none⟩) lg).trans HC1.out
                exact ⟨wanted_guard (g := 3) (d := 21) (b := true) rfl rfl rfl (hdep 3 _ 21 (by kernel_rfl) rfl rfl), .inl (.inl ⟨w', by simp [execOp, Act.eval, e25, cw, go_sem], hS⟩)⟩
              · obtain rfl := Option.some.inj hop
                have e0 : a.tmps[0]?.getD undef = .slice (some ⟨g, 0, none⟩) q.length cs := (Array.getD_eq_getD_getElem? ..).symm.trans (hlow 0 (by kernel_rfl))
                exact ⟨wanted_guard (g := 3) (d := 21) (b := true) rfl rfl rfl (hdep 3 _ 21 (by kernel_rfl) rfl rfl), .inl (.inl ⟨w', by simp [execOp, Act.eval, e0, go_sem], hS⟩)⟩
              · obtain rfl := Option.some.inj hop
                have e9 : a.tmps[9]?.getD undef = .int .i64 (j : Int) := (Array.getD_eq_getD_getElem? ..).symm.trans (hlow 9 (by kernel_rfl))
                exact ⟨wanted_guard (g := 3) (d := 21) (b := true) rfl rfl rfl (hdep 3 _ 21 (by kernel_rfl) rfl rfl), .inl (.inl ⟨w', by simp [execOp, Act.eval, e9, go_sem], hS⟩)⟩
              · obtain rfl := Option.some.inj hop
                have e28 : a.tmps[28]?.getD undef = .int .i64 (j : Int) := (Array.getD_eq_getD_getElem? ..).symm.trans (hdep 10 _ 28 (by kernel_rfl) rfl rfl)
                exact ⟨wanted_guard (g := 3) (d := 21) (b := true) rfl rfl rfl (hdep 3 _ 21 (by kernel_rfl) rfl rfl), .inl (.inl ⟨w', by simp [execOp, Act.eval, e28, hw1, go_sem] <;> omega, hS⟩)⟩
              · obtain rfl := Option.some.inj hop
                have e27 : a.tmps[27]?.getD undef = .slice (some ⟨g, 0, none⟩) q.length cs := (Array.getD_eq_getD_getElem? ..).symm.trans (hdep 9 _ 27 (by kernel_rfl) rfl rfl)
                have e29 : a.tmps[29]?.getD undef = .int .i64 (m : Int) := (Array.getD_eq_getD_getElem? ..).symm.trans (hdep 11 _ 29 (by kernel_rfl) rfl rfl)
                exact ⟨wanted_guard (g := 3) (d := 21) (b := true) rfl rfl rfl (hdep 3 _ 21 (by kernel_rfl) rfl rfl), .inl (.inl ⟨w', by simp [execOp, Act.eval, e27, e29, hm0, hm2, go_sem], hS⟩)⟩
              · obtain rfl := Option.some.inj hop
                have e30 : a.tmps[30]?.getD undef = .pointer (some ⟨g, m, none⟩) := (Array.getD_eq_getD_getElem? ..).symm.trans (hdep 12 _ 30 (by kernel_rfl) rfl rfl)
                have cw : w'.cell? ⟨g, m, none⟩ = some (.int .i64 (y : Int)) := (hS.cell (p := ⟨g, m, none⟩) lg).trans HC0.out
                exact ⟨wanted_guard (g := 3) (d := 21) (b := true) rfl rfl rfl (hdep 3 _ 21 (by kernel_rfl) rfl rfl), .inl (.inl ⟨w', by simp [execOp, Act.eval, e30, cw, go_sem], hS⟩)⟩
              · obtain rfl := Option.some.inj hop
                have e22 : a.tmps[22]?.getD undef = .func (.func FCE) #[] #[.pointer (some ⟨gr, 0, none⟩)] := (Array.getD_eq_getD_getElem? ..).symm.trans (hdep 4 _ 22 (by kernel_rfl) rfl rfl)
                have e26 : a.tmps[26]?.getD undef = .int .i64 (x : Int) := (Array.getD_eq_getD_getElem? ..).symm.trans (hdep 8 _ 26 (by kernel_rfl) rfl rfl)
                have e31 : a.tmps[31]?.getD undef = .int .i64 (y : Int) := (Array.getD_eq_getD_getElem? ..).symm.trans (hdep 13 _ 31 (by kernel_rfl) rfl rfl)
                refine ⟨wanted_guard (g := 3) (d := 21) (b := true) rfl rfl rfl (hdep 3 _ 21 (by kernel_rfl) rfl rfl), .inl (.inr ⟨FCE, #[.int .i64 (x : Int), .int .i64 (y : Int), .pointer (some ⟨gr, 0, none⟩)], by simp [execOp, Act.eval, e22, e26, e31, hcf, go_sem], (HCC.out w' hS).mono ?_⟩)⟩
                rintro e w2 ⟨rfl, hb2⟩
                exact ⟨rfl, hS.trans (hb2.mono hS.size)⟩
              · obtain rfl := Option.some.inj hop
                have e32 : a.tmps[32]?.getD undef = .int .i64 gg := (Array.getD_eq_getD_getElem? ..).symm.trans (hdep 14 _ 32 (by kernel_rfl) rfl rfl)
                exact ⟨wanted_guard (g := 3) (d := 21) (b := true) rfl rfl rfl (hdep 3 _ 21 (by kernel_rfl) rfl rfl), .inl (.inl ⟨w', by simp [execOp, Act.eval, e32, dn, go_sem], hS⟩)⟩
              · obtain rfl := Option.some.inj hop
                have e21 : a.tmps[21]?.getD undef = .bool true := (Array.getD_eq_getD_getElem? ..).symm.trans (hdep 3 _ 21 (by kernel_rfl) rfl rfl)
                have e33 : a.tmps[33]?.getD undef = .bool true := (Array.getD_eq_getD_getElem? ..).symm.trans (hdep 15 _ 33 (by kernel_rfl) rfl rfl)
                exact ⟨wanted_free rfl, .inl (.inl ⟨w', by simp [execOp, Act.eval, e21, e33, go_sem], hS⟩)⟩
          · have dn : decide ((rk out[m] - rk x) < 0) = false := decide_eq_false hneg
            have HF : Hid (joTo rk q (k + 1) ++ q.drop (k + 1) = midL out rest x j) := by
              show _ = _
              rw [HINS.out, HREST.out, insJ_back HSO.out.1 HSO.out.2 (j := j) (by omega) (fun h => by
                have e : j - 1 = m := by have := HJM.out; omega
                simp only [e]
                rw [HSN.out]; exact dn) HG.out]
              unfold midL; simp
            generalize (rk out[m] - rk x) = gg at *
            generalize out[m] = y at *
            go_wp2
            refine wp_region_detY (by kernel_rfl) (fun (_ : Array Bool) w' => Below wr.heap.size wr w') (fun t => (#[.int .i64 (j : Int), .int .i64 0, .bool true, .bool true, .func (.func FCE) #[] #[.pointer (some ⟨gr, 0, none⟩)], .slice (some ⟨g, 0, none⟩) q.length cs, .int .i64 (j : Int), .pointer (some ⟨g, j, none⟩), .int .i64 (x : Int), .slice (some ⟨g, 0, none⟩) q.length cs, .int .i64 (j : Int), .int .i64 (m : Int), .pointer (some ⟨g, m, none⟩), .int .i64 (y : Int), .int .i64 gg, .bool false, .bool false] : Array Value).getD t undef) (by kernel_rfl) (by kernel_rfl) (Below.refl _ _).drew ?_ ?_
            · intro L tm w' hall hS hsz hlow hval
              have ht : tm = #[.slice (some ⟨g, 0, none⟩) q.length cs, .int .i64 0, .int .i64 (q.length : Int), .func (.func FCE) #[] #[.pointer (some ⟨gr, 0, none⟩)], undef, undef, undef, undef, .int .i64 (k : Int), .int .i64 (j : Int), .int .i64 0, .int .i64 1, .int .i64 (k : Int), .int .i64 (q.length : Int), .bool true, u15, u16, .int .i64 (k : Int), .int .i64 (j : Int), .int .i64 0, .bool true, .bool true, .func (.func FCE) #[] #[.pointer (some ⟨gr, 0, none⟩)], .slice (some ⟨g, 0, none⟩) q.length cs, .int .i64 (j : Int), .pointer (some ⟨g, j, none⟩), .int .i64 (x : Int), .slice (some ⟨g, 0, none⟩) q.length cs, .int .i64 (j : Int), .int .i64 (m : Int), .pointer (some ⟨g, m, none⟩), .int .i64 (y : Int), .int .i64 gg, .bool false, .bool false, u35, u36, u37, u38, u39, u40, u41, u42, u43, u44, u45, u46, u47, u48, u49, u50, u51, u52] := by
                refine arr_of _ _ hsz fun t ht => ?_
                have ht' : t < 53 := ht
                rcases (by omega : t = 0 ∨ t = 1 ∨ t = 2 ∨ t = 3 ∨ t = 4 ∨ t = 5 ∨ t = 6 ∨ t = 7 ∨ t = 8 ∨ t = 9 ∨ t = 10 ∨ t = 11 ∨ t = 12 ∨ t = 13 ∨ t = 14 ∨ t = 15 ∨ t = 16 ∨ t = 17 ∨ t = 18 ∨ t = 19 ∨ t = 20 ∨ t = 21 ∨ t = 22 ∨ t = 23 ∨ t = 24 ∨ t = 25 ∨ t = 26 ∨ t = 27 ∨ t = 28 ∨ t = 29 ∨ t = 30 ∨ t = 31 ∨ t = 32 ∨ t = 33 ∨ t = 34 ∨ t = 35 ∨ t = 36 ∨ t = 37 ∨ t = 38 ∨ t = 39 ∨ t = 40 ∨ t = 41 ∨ t = 42 ∨ t = 43 ∨ t = 44 ∨ t = 45 ∨ t = 46 ∨ t = 47 ∨ t = 48 ∨ t = 49 ∨ t = 50 ∨ t = 51 ∨ t = 52) with rfl | rfl | rfl | rfl | rfl | rfl | rfl | rfl | rfl | rfl | rfl | rfl | rfl | rfl | rfl | rfl | rfl | rfl | rfl | rfl | rfl | rfl | rfl | rfl | rfl | rfl | rfl | rfl | rfl | rfl | rfl | rfl | rfl | rfl | rfl | rfl | rfl | rfl | rfl | rfl | rfl | rfl | rfl | rfl | rfl | rfl | rfl | rfl | rfl | rfl | rfl | rfl | rfl
                · exact hlow 0 (by kernel_rfl)
                · exact hlow 1 (by kernel_rfl)
                · exact hlow 2 (by kernel_rfl)
                · exact hlow 3 (by kernel_rfl)
                · exact hlow 4 (by kernel_rfl)
                · exact hlow 5 (by kernel_rfl)
                · exact hlow 6 (by kernel_rfl)
                · exact hlow 7 (by kernel_rfl)
                · exact hlow 8 (by kernel_rfl)
                · exact hlow 9 (by kernel_rfl)
                · exact hlow 10 (by kernel_rfl)
                · exact hlow 11 (by kernel_rfl)
                · exact hlow 12 (by kernel_rfl)
                · exact hlow 13 (by kernel_rfl)
                · exact hlow 14 (by kernel_rfl)
                · exact hlow 15 (by kernel_rfl)
                · exact hlow 16 (by kernel_rfl)
                · exact hlow 17 (by kernel_rfl)
                · exact hval 0 _ 18 rfl rfl
                · exact hval 1 _ 19 rfl rfl
                · exact hval 2 _ 20 rfl rfl
                · exact hval 3 _ 21 rfl rfl
                · exact hval 4 _ 22 rfl rfl
                · exact hval 5 _ 23 rfl rfl
                · exact hval 6 _ 24 rfl rfl
                · exact hval 7 _ 25 rfl rfl
                · exact hval 8 _ 26 rfl rfl
                · exact hval 9 _ 27 rfl rfl
                · exact hval 10 _ 28 rfl rfl
                · exact hval 11 _ 29 rfl rfl
                · exact hval 12 _ 30 rfl rfl
                · exact hval 13 _ 31 rfl rfl
                · exact hval 14 _ 32 rfl rfl
                · exact hval 15 _ 33 rfl rfl
                · exact hval 16 _ 34 rfl rfl
                · exact hlow 35 (by kernel_rfl)
                · exact hlow 36 (by kernel_rfl)
                · exact hlow 37 (by kernel_rfl)
                · exact hlow 38 (by kernel_rfl)
                · exact hlow 39 (by kernel_rfl)
                · exact hlow 40 (by kernel_rfl)
                · exact hlow 41 (by kernel_rfl)
                · exact hlow 42 (by kernel_rfl)
                · exact hlow 43 (by kernel_rfl)
                · exact hlow 44 (by kernel_rfl)
                · exact hlow 45 (by kernel_rfl)
                · exact hlow 46 (by kernel_rfl)
                · exact hlow 47 (by kernel_rfl)
                · exact hlow 48 (by kernel_rfl)
                · exact hlow 49 (by kernel_rfl)
                · exact hlow 50 (by kernel_rfl)
                · exact hlow 51 (by kernel_rfl)
                · exact hlow 52 (by kernel_rfl)
              subst ht
              clear hlow hval hsz hall
              have HSW1 := Lib.hid (HSJ.out.below hS)
              clear hS HCC HC1 HC0 fz1 fz0 HX
              go_wp2
              go_roundw
              case rel => exact ⟨k + 1, by omega, by omega, by go_num, by rw [HF.out]; exact HSW1.out⟩
              case measure => simp [intOf]; omega
            · intro L a w' t op _ hop _ _ _ hS hlow hdep _
              have ht : t < 17 := (Array.getElem?_eq_some_iff.1 hop).1
              rcases (by omega : t = 0 ∨ t = 1 ∨ t = 2 ∨ t = 3 ∨ t = 4 ∨ t = 5 ∨ t = 6 ∨ t = 7 ∨ t = 8 ∨ t = 9 ∨ t = 10 ∨ t = 11 ∨ t = 12 ∨ t = 13 ∨ t = 14 ∨ t = 15 ∨ t = 16) with rfl | rfl | rfl | rfl | rfl | rfl | rfl | rfl | rfl | rfl | rfl | rfl | rfl | rfl | rfl | rfl | rfl
              · obtain rfl := Option.some.inj hop
                have e9 : a.tmps[9]?.getD undef = .int .i64 (j : Int) := (Array.getD_eq_getD_getElem? ..).symm.trans (hlow 9 (by kernel_rfl))
                exact ⟨wanted_free rfl, .inl (.inl ⟨w', by simp [execOp, Act.eval, e9, go_sem], hS⟩)⟩
              · obtain rfl := Option.some.inj hop
                have e1 : a.tmps[1]?.getD undef = .int .i64 0 := (Array.getD_eq_getD_getElem? ..).symm.trans (hlow 1 (by kernel_rfl))
                exact ⟨wanted_free rfl, .inl (.inl ⟨w', by simp [execOp, Act.eval, e1, go_sem], hS⟩)⟩
              · obtain rfl := Option.some.inj hop
                have e18 : a.tmps[18]?.getD undef = .int .i64 (j : Int) := (Array.getD_eq_getD_getElem? ..).symm.trans (hdep 0 _ 18 (by kernel_rfl) rfl rfl)
                have e19 : a.tmps[19]?.getD undef = .int .i64 0 := (Array.getD_eq_getD_getElem? ..).symm.trans (hdep 1 _ 19 (by kernel_rfl) rfl rfl)
                exact ⟨wanted_free rfl, .inl (.inl ⟨w', by simp [execOp, Act.eval, e18, e19, h0, go_sem], hS⟩)⟩
              · obtain rfl := Option.some.inj hop
                have e20 : a.tmps[20]?.getD undef = .bool true := (Array.getD_eq_getD_getElem? ..).symm.trans (hdep 2 _ 20 (by kernel_rfl) rfl rfl)
                exact ⟨wanted_free rfl, .inl (.inl ⟨w', by simp [execOp, Act.eval, e20, go_sem], hS⟩)⟩
              · obtain rfl := Option.some.inj hop
                have e3 : a.tmps[3]?.getD undef = .func (.func FCE) #[] #[.pointer (some ⟨gr, 0, none⟩)] := (Array.getD_eq_getD_getElem? ..).symm.trans (hlow 3 (by kernel_rfl))
                exact ⟨wanted_guard (g := 3) (d := 21) (b := true) rfl rfl rfl (hdep 3 _ 21 (by kernel_rfl) rfl rfl), .inl (.inl ⟨w', by simp [execOp, Act.eval, e3, go_sem], hS⟩)⟩
              · obtain rfl := Option.some.inj hop
                have e0 : a.tmps[0]?.getD undef = .slice (some ⟨g, 0, none⟩) q.length cs := (Array.getD_eq_getD_getElem? ..).symm.trans (hlow 0 (by kernel_rfl))
                exact ⟨wanted_guard (g := 3) (d := 21) (b := true) rfl rfl rfl (hdep 3 _ 21 (by kernel_rfl) rfl rfl), .inl (.inl ⟨w', by simp [execOp, Act.eval, e0, go_sem], hS⟩)⟩
              · obtain rfl := Option.some.inj hop
                have e9 : a.tmps[9]?.getD undef = .int .i64 (j : Int) := (Array.getD_eq_getD_getElem? ..).symm.trans (hlow 9 (by kernel_rfl))
                exact ⟨wanted_guard (g := 3) (d := 21) (b := true) rfl rfl rfl (hdep 3 _ 21 (by kernel_rfl) rfl rfl), .inl (.inl ⟨w', by simp [execOp, Act.eval, e9, go_sem], hS⟩)⟩
              · obtain rfl := Option.some.inj hop
                have e23 : a.tmps[23]?.getD undef = .slice (some ⟨g, 0, none⟩) q.length cs := (Array.getD_eq_getD_getElem? ..).symm.trans (hdep 5 _ 23 (by kernel_rfl) rfl rfl)
                have e24 : a.tmps[24]?.getD undef = .int .i64 (j : Int) := (Array.getD_eq_getD_getElem? ..).symm.trans (hdep 6 _ 24 (by kernel_rfl) rfl rfl)
                exact ⟨wanted_guard (g := 3) (d := 21) (b := true) rfl rfl rfl (hdep 3 _ 21 (by kernel_rfl) rfl rfl), .inl (.inl ⟨w', by simp [execOp, Act.eval, e23, e24, hj0, hjq, go_sem], hS⟩)⟩
              · obtain rfl := Option.some.inj hop
                have e25 : a.tmps[25]?.getD undef = .pointer (some ⟨g, j, none⟩) := (Array.getD_eq_getD_getElem? ..).symm.trans (hdep 7 _ 25 (by kernel_rfl) rfl rfl)
                have cw : w'.cell? ⟨g, j, none⟩ = some (.int .i64 (x : Int)) := (hS.cell (p := ⟨g, j, none⟩) lg).trans HC1.out
                exact ⟨wanted_guard (g := 3) (d := 21) (b := true) rfl rfl rfl (hdep 3 _ 21 (by kernel_rfl) rfl rfl), .inl (.inl ⟨w', by simp [execOp, Act.eval, e25, cw, go_sem], hS⟩)⟩
              · obtain rfl := Option.some.inj hop
                have e0 : a.tmps[0]?.getD undef = .slice (some ⟨g, 0, none⟩) q.length cs := (Array.getD_eq_getD_getElem? ..).symm.trans (hlow 0 (by kernel_rfl))
                exact ⟨wanted_guard (g := 3) (d := 21) (b := true) rfl rfl rfl (hdep 3 _ 21 (by kernel_rfl) rfl rfl), .inl (.inl ⟨w', by simp [execOp, Act.eval, e0, go_sem], hS⟩)⟩
              · obtain rfl := Option.some.inj hop
                have e9 : a.tmps[9]?.getD undef = .int .i64 (j : Int) := (Array.getD_eq_getD_getElem? ..).symm.trans (hlow 9 (by kernel_rfl))
                exact ⟨wanted_guard (g := 3) (d := 21) (b := true) rfl rfl rfl (hdep 3 _ 21 (by kernel_rfl) rfl rfl), .inl (.inl ⟨w', by simp [execOp, Act.eval, e9, go_sem], hS⟩)⟩
              · obtain rfl := Option.some.inj hop
                have e28 : a.tmps[28]?.getD undef = .int .i64 (j : Int) := (Array.getD_eq_getD_getElem? ..).symm.trans (hdep 10 _ 28 (by kernel_rfl) rfl rfl)
                exact ⟨wanted_guard (g := 3) (d := 21) (b := true) rfl rfl rfl (hdep 3 _ 21 (by kernel_rfl) rfl rfl), .inl (.inl ⟨w', by simp [execOp, Act.eval, e28, hw1, go_sem] <;> omega, hS⟩)⟩
              · obtain rfl := Option.some.inj hop
                have e27 : a.tmps[27]?.getD undef = .slice (some ⟨g, 0, none⟩) q.length cs := (Array.getD_eq_getD_getElem? ..).symm.trans (hdep 9 _ 27 (by kernel_rfl) rfl rfl)
                have e29 : a.tmps[29]?.getD undef = .int .i64 (m : Int) := (Array.getD_eq_getD_getElem? ..).symm.trans (hdep 11 _ 29 (by kernel_rfl) rfl rfl)
                exact ⟨wanted_guard (g := 3) (d := 21) (b := true) rfl rfl rfl (hdep 3 _ 21 (by kernel_rfl) rfl rfl), .inl (.inl ⟨w', by simp [execOp, Act.eval, e27, e29, hm0, hm2, go_sem], hS⟩)⟩
              · obtain rfl := Option.some.inj hop
                have e30 : a.tmps[30]?.getD undef = .pointer (some ⟨g, m, none⟩) := (Array.getD_eq_getD_getElem? ..).symm.trans (hdep 12 _ 30 (by kernel_rfl) rfl rfl)
                have cw : w'.cell? ⟨g, m, none⟩ = some (.int .i64 (y : Int)) := (hS.cell (p := ⟨g, m, none⟩) lg).trans HC0.out
                exact ⟨wanted_guard (g := 3) (d := 21) (b := true) rfl rfl rfl (hdep 3 _ 21 (by kernel_rfl) rfl rfl), .inl (.inl ⟨w', by simp [execOp, Act.eval, e30, cw, go_sem], hS⟩)⟩
              · obtain rfl := Option.some.inj hop
                have e22 : a.tmps[22]?.getD undef = .func (.func FCE) #[] #[.pointer (some ⟨gr, 0, none⟩)] := (Array.getD_eq_getD_getElem? ..).symm.trans (hdep 4 _ 22 (by kernel_rfl) rfl rfl)
                have e26 : a.tmps[26]?.getD undef = .int .i64 (x : Int) := (Array.getD_eq_getD_getElem? ..).symm.trans (hdep 8 _ 26 (by kernel_rfl) rfl rfl)
                have e31 : a.tmps[31]?.getD undef = .int .i64 (y : Int) := (Array.getD_eq_getD_getElem? ..).symm.trans (hdep 13 _ 31 (by kernel_rfl) rfl rfl)
                refine ⟨wanted_guard (g := 3) (d := 21) (b := true) rfl rfl rfl (hdep 3 _ 21 (by kernel_rfl) rfl rfl), .inl (.inr ⟨FCE, #[.int .i64 (x : Int), .int .i64 (y : Int), .pointer (some ⟨gr, 0, none⟩)], by simp [execOp, Act.eval, e22, e26, e31, hcf, go_sem], (HCC.out w' hS).mono ?_⟩)⟩
                rintro e w2 ⟨rfl, hb2⟩
                exact ⟨rfl, hS.trans (hb2.mono hS.size)⟩
              · obtain rfl := Option.some.inj hop
                have e32 : a.tmps[32]?.getD undef = .int .i64 gg := (Array.getD_eq_getD_getElem? ..).symm.trans (hdep 14 _ 32 (by kernel_rfl) rfl rfl)
                exact ⟨wanted_guard (g := 3) (d := 21) (b := true) rfl rfl rfl (hdep 3 _ 21 (by kernel_rfl) rfl rfl), .inl (.inl ⟨w', by simp [execOp, Act.eval, e32, dn, go_sem], hS⟩)⟩
              · obtain rfl := Option.some.inj hop
                have e21 : a.tmps[21]?.getD undef = .bool true := (Array.getD_eq_getD_getElem? ..).symm.trans (hdep 3 _ 21 (by kernel_rfl) rfl rfl)
                have e33 : a.tmps[33]?.getD undef = .bool false := (Array.getD_eq_getD_getElem? ..).symm.trans (hdep 15 _ 33 (by kernel_rfl) rfl rfl)
                exact ⟨wanted_free rfl, .inl (.inl ⟨w', by simp [execOp, Act.eval, e21, e33, go_sem], hS⟩)⟩
        · have d0 : decide ((0 : Int) < (j : Int)) = false := decide_eq_false (by omega)
          have d1 : ¬ (0 : Int) < (j : Int) := by omega
          have HF : Hid (joTo rk q (k + 1) ++ q.drop (k + 1) = midL out rest x j) := by
            show _ = _
            rw [HINS.out, HREST.out, insJ_back HSO.out.1 HSO.out.2 (j := j) (by omega) (fun h => absurd h h0) HG.out]
            unfold midL; simp
          go_wp2
          go_quiet (fail)
          go_wp2
          go_roundw
          case rel => exact ⟨k + 1, by omega, by omega, by go_num, by rw [HF.out]; exact HSJ.out.drew _⟩
          case measure => simp [intOf]; omega
    · have hkq : k = q.length := by omega
      have HF : Hid (joTo rk q k ++ q.drop k = joL rk q) := by
        show _ = _
        rw [hkq, List.drop_of_length_le (Nat.le_refl _), List.append_nil]; rfl
      have hkq' : ¬ (k : Int) < (q.length : Int) := by omega
      clear hkq
      go_wp2
      go_end0
      refine ⟨rfl, ?_⟩
      rw [← HF.out]
      exact HSk.out
end
end Go.Proofs.YtpoibjmkbljblaaDoor

end
section
namespace Go.Proofs.YtpoibjmkbljblaaDoor
open Go.RowKit
theorem insSort0E (B : Option Addr) (d : Nat) (fv : Value) (w : World) :
    Calls Tryd.prog 169 #[.slice B 0 d, .int .i64 0, .int .i64 0, fv] w fun e w' => e = .returned (.tuple #[]) ∧ w = w' := by
  go_enter Tryd.func169, Tryd.ntmps169
  go_wp2
  refine wp_loop_rounds 1 ?_
  rw [rounds_succ]
  go_wp2
  go_end0
  exact ⟨rfl, rfl⟩
theorem stableE_any (P : World → Prop) (B : Option Addr) (n d : Nat) (fv : Value) (w : World) (hn : n ≤ 12)
    (hI : Calls Tryd.prog 169 #[.slice B n d, .int .i64 0, .int .i64 (n : Int), fv] w fun e w' => e = .returned (.tuple #[]) ∧ P w') :
    Calls Tryd.prog 151 #[.slice B n d, .int .i64 (n : Int), fv] w fun e w' => e = .returned (.tuple #[]) ∧ P w' := by
  have HI := Lib.hid hI
  clear hI
  have h1 : ¬ (20 : Int) ≤ n := by omega
  have h2 : ¬ (20 : Int) < n := by omega
  go_enter Tryd.func151, Tryd.ntmps151
  go_wp2
  refine wp_loop_rounds 1 ?_
  rw [rounds_succ]
  go_wp2_with fail
  refine HI.out.mono ?_
  rintro e w' ⟨rfl, hp⟩
  have HP := Lib.hid hp
  clear hp
  go_wp2
  refine wp_loop_rounds 1 ?_
  rw [rounds_succ]
  go_wp2
  first
    | (refine bodyPost_ret (results_none rfl _ _ _) rfl ?_; exact ⟨rfl, HP.out⟩)
    | (go_end0; exact ⟨rfl, HP.out⟩)
theorem sortStableE_any (P : World → Prop) (B : Option Addr) (n d : Nat) (fv : Value) (w : World) (hn : n ≤ 12)
    (hI : Calls Tryd.prog 169 #[.slice B n d, .int .i64 0, .int .i64 (n : Int), fv] w fun e w' => e = .returned (.tuple #[]) ∧ P w') :
    Calls Tryd.prog 120 #[.slice B n d, fv] w fun e w' => e = .returned (.tuple #[]) ∧ P w' := by
  have HI := Lib.hid (stableE_any P B n d fv w hn hI)
  clear hI
  go_enter Tryd.func120, Tryd.ntmps120
  go_wp2_with fail
  refine HI.out.mono ?_
  rintro e w' ⟨rfl, hp⟩
  have HP := Lib.hid hp
  clear hp
  go_wp2
  go_end0
  exact ⟨rfl, HP.out⟩
theorem sortE_own {rk : Nat → Int} {n0 gr cR : Nat} {R : Option Addr} (hrk : ∀ i, 0 ≤ rk i ∧ rk i ≤ 2000) (B0 : Nat) (w : World) (hr : EvIs rk n0 gr R cR w) (B : Option Addr) (d : Nat) (q : List Nat) (hown : w.ownsRow B0 3 1 (.slice B q.length d) q.length (ic (natI q))) (hq : ∀ x ∈ q, x < n0) (hup : ∀ k (hk : k < q.length), ∀ a ∈ q.take k, a < q[k]) (hd : q.Nodup) (hl : q.length ≤ 12) (hA : gr < B0 ∧ ∀ a, R = some a → 0 < n0 → a.block < B0) :
    Calls Tryd.prog 120 #[.slice B q.length d, .func (.func 142) #[] #[.pointer (some ⟨gr, 0, none⟩)]] w fun e w' => e = .returned (.tuple #[]) ∧ (w'.ownsRow B0 3 1 (.slice B q.length d) q.length (ic (natI (joL rk q))) ∧ Below B0 w w') := by
  refine sortStableE_any (fun w' => w'.ownsRow B0 3 1 (.slice B q.length d) q.length (ic (natI (joL rk q))) ∧ Below B0 w w') B q.length d _ w hl ?_
  by_cases h0 : q.length = 0
  · have hq0 : q = [] := List.eq_nil_of_length_eq_zero h0
    subst hq0
    refine (insSort0E B d _ w).mono ?_
    rintro e w' ⟨rfl, rfl⟩
    exact ⟨rfl, hown, Below.refl _ _⟩
  · obtain ⟨g, cur, rfl, hg, hB, h1, h2, h3, h4⟩ := own_block hown (by omega)
    refine (insSortE_any hrk w hr g d cur.size q hq hup hd hl ⟨cur, hB, rfl, by rw [Nat.mul_one] at h4; exact h4, World.grownBy.refl _ _⟩ ⟨by have := hA.1; omega, fun a ha hp => by have := hA.2 a ha hp; omega⟩).mono ?_
    rintro e w' ⟨rfl, cur', hB', hs', ht', hG⟩
    refine ⟨rfl, ?_, ⟨hG.os, hG.tape, hG.output, hG.size, fun k hk => hG.block k (by have := hB.lt; omega) (fun e => by injection e; omega)⟩⟩
    have h := hB'.own (base := B0) (n := q.length) (c := d) (size := 1) hg (by rw [hs']; exact h3) h1 h2 (by rw [hs', h3]; omega)
    rw [Nat.mul_one, ht'] at h
    exact h
theorem rkE_bd {n : Nat} {en : List Int} (hv : vecB n en = true) (i : Nat) : 0 ≤ rkE en i ∧ rkE en i ≤ 2000 := by
  have h := vec_at hv i
  unfold rkE
  omega
theorem rkE_map (en : List Int) : (List.range en.length).map (fun i => 2000 - rkE en i) = en := by
  refine List.ext_getElem (by simp) fun i h1 h2 => ?_
  simp only [List.getElem_map, List.getElem_range]
  unfold rkE
  rw [getD_at en 0 h2]
  omega
set_option maxRecDepth 100000 in
set_option maxHeartbeats 2000000 in
theorem orderV_any (A C : Option Addr) (c b : Nat) (en : List Int) (w : World) (hn : en.length ≤ 8) (he : Row w C (ic en)) (hv : vecB en.length en = true) (hT : TzTab w) :
    Calls Tryd.prog 106 #[.agg #[.slice A en.length c, .slice C en.length b]] w fun e w' => ∃ v, e = .returned v ∧ w'.ownsRow w.heap.size 3 1 v en.length (ic (natI (eoL en))) ∧ Below w.heap.size w w' := by
  have hpow : 2 ^ en.length - 1 < 256 := by
    have : 2 ^ en.length ≤ 2 ^ 8 := Nat.pow_le_pow_right (by omega) hn
    omega
  have HE : Hid (eoL en = joL (rkE en) (List.range en.length)) := rfl
  have hrk := rkE_bd hv
  have hmap := rkE_map en
  rw [HE.out]
  have hb0 := (Below.refl w.heap.size w).alloc (Nat.le_refl _) (.cells #[.slice A en.length c, .slice C en.length b] 70)
  have hB0 := BlockIs.new w 70 #[.slice A en.length c, .slice C en.length b]
  have hT0 := hT.below hb0
  have hsz : (w.alloc (.cells #[.slice A en.length c, .slice C en.length b] 70)).heap.size = w.heap.size + 1 := by simp
  have hRk : EvIs (rkE en) en.length w.heap.size C b (w.alloc (.cells #[.slice A en.length c, .slice C en.length b] 70)) := ⟨⟨A, c, hB0⟩, by rw [hmap]; exact he.below hb0⟩
  have hRb : ∀ a, C = some a → 0 < en.length → a.block < w.heap.size := fun a ha hp => by
    obtain ⟨ad, e, hb', _⟩ := he (by rw [ic_len]; exact hp)
    rw [ha] at e
    injection e with e
    rw [e]; exact hb'
  have d0 := hB0.cell 0
  simp only [List.getElem?_toArray, List.getElem?_cons_zero] at d0
  clear hmap
  generalize rkE en = rk at *
  generalize en.length = n at *
  have HL : Hid (∀ w1 : World, w1 = w.alloc (.cells #[.slice A n c, .slice C n b] 70) → Calls Tryd.prog 60 #[.int .u64 ((2 ^ n - 1 : Nat) : Int)] w1 fun e w' => ∃ v, e = .returned v ∧ w'.ownsRow (w.heap.size + 1) 3 1 v n (ic (natI (List.range n))) ∧ Below (w.heap.size + 1) w1 w') := fun w1 e1 => by
    subst e1
    have h := list_any (2 ^ n - 1) _ hpow hT0
    rw [memB_all n (by omega), List.length_range, hsz] at h
    exact h
  have HSO : Hid (∀ (w1 : World) (B : Option Addr) (d : Nat), Below (w.heap.size + 1) (w.alloc (.cells #[.slice A n c, .slice C n b] 70)) w1 → w1.ownsRow (w.heap.size + 1) 3 1 (.slice B n d) n (ic (natI (List.range n))) → Calls Tryd.prog 120 #[.slice B n d, .func (.func 142) #[] #[.pointer (some ⟨w.heap.size, 0, none⟩)]] w1 fun e w' => e = .returned (.tuple #[]) ∧ (w'.ownsRow (w.heap.size + 1) 3 1 (.slice B n d) n (ic (natI (joL rk (List.range n)))) ∧ Below (w.heap.size + 1) w1 w')) := fun w1 B d hb ho => by
    have h := sortE_own hrk (w.heap.size + 1) w1 (hRk.below (by rw [hsz]; exact hb)) B d (List.range n) (by rw [List.length_range]; exact ho) (fun x hx => List.mem_range.1 hx) (fun k hk a ha => by
      rw [List.take_range] at ha
      have := List.mem_range.1 ha
      rw [List.getElem_range]
      omega) List.nodup_range (by rw [List.length_range]; omega) ⟨by omega, fun a ha hp => by have := hRb a ha hp; omega⟩
    rw [List.length_range] at h
    exact h
  have HB := Lib.hid (And.intro hb0 hsz)
  have HAJ := Lib.hid (fun W => all_any A n c hn W)
  clear he hT hT0 hRk hRb hrk hb0 hsz hpow hB0 hv
  go_enter Tryd.func106, Tryd.ntmps106
  go_wp2_with fail
  refine (HAJ.out _).mono ?_
  rintro e _ ⟨rfl, rfl⟩
  go_wp2_with fail
  refine (HL.out _ rfl).mono ?_
  rintro e w1 ⟨v, rfl, hown, hb1⟩
  obtain ⟨B, d, rfl, _, _⟩ := own_slice hown
  have HC := Lib.hid (HSO.out w1 B d hb1 hown)
  have HB1 := Lib.hid hb1
  clear hown hb1 HSO HL d0
  go_wp2_with fail
  refine HC.out.mono ?_
  rintro e w2 ⟨rfl, hown2, hb2⟩
  have HX := Lib.hid (And.intro (own_lower hown2 (Nat.le_succ w.heap.size)) (HB.out.1.trans ((HB1.out.trans hb2).mono (Nat.le_succ _))))
  clear hown2 hb2
  go_wp2
  go_ret
  exact ⟨_, rfl, HX.out.1, HX.out.2⟩
end Go.Proofs.YtpoibjmkbljblaaDoor

end
section
namespace Go.Proofs.YtpoibjmkbljblaaDoor
set_option linter.unusedSimpArgs false
set_option linter.unusedVariables false
open Go.RowKit
theorem rep_getDE (n i : Nat) (h : i < n) : (Array.replicate n false).getD i true = false := by simp [Array.getD_eq_getD_getElem?, h]
/-- A chain of sets of first jobs: behind the set s come the jobs of the list, one by one. -/
def ChainF (w : World) : Nat → List Nat → Option Addr → Prop
  | _, [], v => v = none
  | s, i :: l, v => ∃ g more, v = some ⟨g, 0, none⟩ ∧ BlockIs w g 119 #[.int .u64 (addB s i : Int), .int .i64 (i : Int), .pointer more] ∧ ChainF w (addB s i) l more
theorem ChainF.below {w w' : World} (hb : Below w.heap.size w w') : ∀ {l : List Nat} {s : Nat} {v : Option Addr}, ChainF w s l v → ChainF w' s l v
  | [], _, _, h => h
  | _ :: _, _, _, ⟨g, more, h1, h2, h3⟩ => ⟨g, more, h1, h2.below hb, ChainF.below hb h3⟩
theorem row_tailN {w : World} {ad : Addr} {l : List Nat} {i cc : Nat} (h : Row w (some ad) (ic (natI (i :: l)))) (hc : l.length + 1 ≤ cc) : Row w (some (tailAd ad 1 cc)) (ic (natI l)) := by
  have h1 := tail_src (l := 1) (xs := natI (i :: l)) h (by simpa using hc)
  intro h0
  rw [ic_len, natI_len] at h0
  obtain ⟨a, e, hb, _⟩ := h (by rw [ic_len, natI_len]; simp)
  obtain rfl := Option.some.inj e
  refine ⟨_, rfl, ?_, fun j u hu => h1 j u (by simpa [natI] using hu)⟩
  unfold tailAd
  split
  · exact hb
  · exact hb
structure Fbq where
  v : Option Addr
  g : Nat
set_option maxRecDepth 100000 in
set_option maxHeartbeats 4000000 in
theorem firstBehind_any : ∀ (l : List Nat) (s : Nat) (B : Option Addr) (d : Nat) (w : World), s < 256 → (∀ x ∈ l, x < 8) → l.length ≤ 8 → l.length ≤ d → Row w B (ic (natI l)) →
    Calls Tryd.prog 105 #[.int .u64 (s : Int), .slice B l.length d] w fun e w' => ∃ v, e = .returned (.pointer v) ∧ ChainF w' s l v ∧ Below w.heap.size w w' := by
  intro l
  induction l with
  | nil =>
    intro s B d w _ _ _ _ _
    go_enter Tryd.func105, Tryd.ntmps105
    go_wp2
    go_ret
    exact ⟨_, rfl, rfl, Below.refl _ _⟩
  | cons i l ih =>
    intro s B d w hs hl hn hd hr
    have hi := hl i List.mem_cons_self
    have ha := addB_lt8 s hs i hi
    have hll : (i :: l).length = l.length + 1 := rfl
    rw [hll] at hn hd ⊢
    obtain ⟨ad, rfl, _, hc⟩ := hr (by simp [ic, natI])
    have c0 : w.cell? (ad.add 0) = some (.int .i64 (i : Int)) := hc 0 _ (by simp [ic, natI])
    have ht := row_tailN hr hd
    have HIH := Lib.hid (fun W (hb : Below w.heap.size w W) => ih (addB s i) (some (tailAd ad 1 d)) (d - 1) W ha (fun x hx => hl x (List.mem_cons_of_mem _ hx)) (by omega) (by omega) (ht.below hb))
    have HWI := Lib.hid (with_any s i hs hi)
    have hne : (((l.length + 1 : Nat) : Int) == 0) = false := by simp; omega
    have hk1 : (0 : Int) < ((l.length + 1 : Nat) : Int) := by omega
    have ca : w.cell? ad = some (.int .i64 (i : Int)) := by simpa [Addr.add] using c0
    have HCA : Hid (∀ W, Below w.heap.size w W → W.cell? ad = some (.int .i64 (i : Int))) := fun W hb => (hb.cell (p := ad) (lt_of_cell ca)).trans ca
    clear ih hc ht hr hl hs hi c0
    obtain ⟨ll, hlL⟩ : ∃ ll, ll = l.length := ⟨_, rfl⟩
    rw [← hlL] at hne hk1 hn hd hll HIH ⊢
    have HLL := Lib.hid hlL
    clear hlL hll
    obtain ⟨sx, hsx⟩ : ∃ sx, sx = addB s i := ⟨_, rfl⟩
    rw [← hsx] at HIH HWI ha
    have HSX := Lib.hid hsx
    clear hsx
    go_enter Tryd.func105, Tryd.ntmps105
    go_wp2_with fail
    refine (HWI.out _).mono ?_
    rintro e _ ⟨rfl, rfl⟩
    clear HWI
    go_wp2
    refine wp_region_detP (γ := Fbq) (by kernel_rfl) (fun x L W => Below w.heap.size w W ∧ (L.getD 7 true = true → ChainF W sx l x.v) ∧ (L.getD 8 true = true → L.getD 7 true = true) ∧ (L.getD 9 true = true → L.getD 8 true = true ∧ BlockIs W x.g 119 #[.int .u64 (sx : Int), .int .i64 (i : Int), .pointer x.v])) (fun x kk => (#[.int .u64 (sx : Int), .slice (some ad) (ll + 1) d, .pointer (some ad), .int .i64 (i : Int), .int .u64 (sx : Int), .slice (some ad) (ll + 1) d, .slice (some (tailAd ad 1 d)) ll (d - 1), .pointer x.v, .agg #[.int .u64 (sx : Int), .int .i64 (i : Int), .pointer x.v], .pointer (some ⟨x.g, 0, none⟩), .pointer (some ⟨x.g, 0, none⟩)] : Array Value).getD kk undef) ⟨none, 0⟩ (by kernel_rfl) (by kernel_rfl) ⟨(Below.refl _ _).drew, fun h => absurd (h.symm.trans (rep_getDE 11 7 (by decide))) (by decide), fun h => absurd (h.symm.trans (rep_getDE 11 8 (by decide))) (by decide), fun h => absurd (h.symm.trans (rep_getDE 11 9 (by decide))) (by decide)⟩ ?_ ?_
    · intro x L W hall hS
      have hch := hS.2.1 (hall 7 (by show 7 < 11; decide))
      have hbl := (hS.2.2.2 (hall 9 (by show 9 < 11; decide))).2
      have HF := Lib.hid (And.intro hS.1 (And.intro hch hbl))
      clear hS hall hch hbl
      simp only [putsL]
      simp only [List.getElem_toArray, List.getElem_cons_zero, List.getElem_cons_succ, Act.put, Array.getD_eq_getD_getElem?, List.getElem?_toArray, List.getElem?_cons_zero, List.getElem?_cons_succ, Option.getD_some, List.setIfInBounds_toArray, List.set_cons_zero, List.set_cons_succ, Nat.reduceAdd]
      go_wp2
      go_ret
      exact ⟨some ⟨x.g, 0, none⟩, rfl, ⟨x.g, x.v, rfl, by rw [← HSX.out]; exact HF.out.2.2, by rw [← HSX.out]; exact HF.out.2.1⟩, HF.out.1⟩
    · intro x L ac W iq op hLs hop hLi hLd hLn ⟨hS0, hS7, hS8, hS9⟩ hlow hdep
      have hq : iq < 11 := (Array.getElem?_eq_some_iff.1 hop).1
      have K : iq ≠ 7 → iq ≠ 8 → iq ≠ 9 → Below w.heap.size w W ∧ ((L.setIfInBounds iq true).getD 7 true = true → ChainF W sx l x.v) ∧ ((L.setIfInBounds iq true).getD 8 true = true → (L.setIfInBounds iq true).getD 7 true = true) ∧ ((L.setIfInBounds iq true).getD 9 true = true → (L.setIfInBounds iq true).getD 8 true = true ∧ BlockIs W x.g 119 #[.int .u64 (sx : Int), .int .i64 (i : Int), .pointer x.v]) := fun h7 h8 h9 => by
        rw [listed_ne h7, listed_ne h8, listed_ne h9]
        exact ⟨hS0, hS7, hS8, hS9⟩
      have val_eq : ∀ (q : Nat) (y : Fbq), (∀ j, j < 11 → j ≠ q → L.getD j true = true → (#[.int .u64 (sx : Int), .slice (some ad) (ll + 1) d, .pointer (some ad), .int .i64 (i : Int), .int .u64 (sx : Int), .slice (some ad) (ll + 1) d, .slice (some (tailAd ad 1 d)) ll (d - 1), .pointer y.v, .agg #[.int .u64 (sx : Int), .int .i64 (i : Int), .pointer y.v], .pointer (some ⟨y.g, 0, none⟩), .pointer (some ⟨y.g, 0, none⟩)] : Array Value).getD j undef = (#[.int .u64 (sx : Int), .slice (some ad) (ll + 1) d, .pointer (some ad), .int .i64 (i : Int), .int .u64 (sx : Int), .slice (some ad) (ll + 1) d, .slice (some (tailAd ad 1 d)) ll (d - 1), .pointer x.v, .agg #[.int .u64 (sx : Int), .int .i64 (i : Int), .pointer x.v], .pointer (some ⟨x.g, 0, none⟩), .pointer (some ⟨x.g, 0, none⟩)] : Array Value).getD j undef) → L.getD q true = false → ∀ j, L.getD j true = true → (#[.int .u64 (sx : Int), .slice (some ad) (ll + 1) d, .pointer (some ad), .int .i64 (i : Int), .int .u64 (sx : Int), .slice (some ad) (ll + 1) d, .slice (some (tailAd ad 1 d)) ll (d - 1), .pointer y.v, .agg #[.int .u64 (sx : Int), .int .i64 (i : Int), .pointer y.v], .pointer (some ⟨y.g, 0, none⟩), .pointer (some ⟨y.g, 0, none⟩)] : Array Value).getD j undef = (#[.int .u64 (sx : Int), .slice (some ad) (ll + 1) d, .pointer (some ad), .int .i64 (i : Int), .int .u64 (sx : Int), .slice (some ad) (ll + 1) d, .slice (some (tailAd ad 1 d)) ll (d - 1), .pointer x.v, .agg #[.int .u64 (sx : Int), .int .i64 (i : Int), .pointer x.v], .pointer (some ⟨x.g, 0, none⟩), .pointer (some ⟨x.g, 0, none⟩)] : Array Value).getD j undef := fun q y hag hi j hj => by
        by_cases h15 : j < 11
        · exact hag j h15 (fun e => by subst e; rw [hi] at hj; cases hj) hj
        · have h1 : 11 ≤ j := by omega
          rw [Array.getD_eq_getD_getElem?, Array.getD_eq_getD_getElem?, Array.getElem?_eq_none (by simpa using h1), Array.getElem?_eq_none (by simpa using h1)]
      rcases (by omega : iq = 0 ∨ iq = 1 ∨ iq = 2 ∨ iq = 3 ∨ iq = 4 ∨ iq = 5 ∨ iq = 6 ∨ iq = 7 ∨ iq = 8 ∨ iq = 9 ∨ iq = 10) with rfl | rfl | rfl | rfl | rfl | rfl | rfl | rfl | rfl | rfl | rfl
      · obtain rfl := Option.some.inj hop
        have e5 : ac.tmps[5]?.getD undef = .int .u64 (sx : Int) := (Array.getD_eq_getD_getElem? ..).symm.trans (hlow 5 (by kernel_rfl))
        exact ⟨wanted_free rfl, .inl ⟨x, W, fun _ _ => rfl, by simp [execOp, Act.eval, e5, go_sem], K (by decide) (by decide) (by decide)⟩⟩
      · obtain rfl := Option.some.inj hop
        have e1 : ac.tmps[1]?.getD undef = .slice (some ad) (ll + 1) d := (Array.getD_eq_getD_getElem? ..).symm.trans (hlow 1 (by kernel_rfl))
        exact ⟨wanted_free rfl, .inl ⟨x, W, fun _ _ => rfl, by simp [execOp, Act.eval, e1, go_sem], K (by decide) (by decide) (by decide)⟩⟩
      · obtain rfl := Option.some.inj hop
        have e15 : ac.tmps[15]?.getD undef = .slice (some ad) (ll + 1) d := (Array.getD_eq_getD_getElem? ..).symm.trans (hdep 1 _ 15 (by kernel_rfl) rfl rfl)
        exact ⟨wanted_free rfl, .inl ⟨x, W, fun _ _ => rfl, by simp [execOp, Act.eval, e15, hk1, go_sem], K (by decide) (by decide) (by decide)⟩⟩
      · obtain rfl := Option.some.inj hop
        have e16 : ac.tmps[16]?.getD undef = .pointer (some ad) := (Array.getD_eq_getD_getElem? ..).symm.trans (hdep 2 _ 16 (by kernel_rfl) rfl rfl)
        have hc := HCA.out W hS0
        exact ⟨wanted_free rfl, .inl ⟨x, W, fun _ _ => rfl, by simp [execOp, Act.eval, e16, hc, go_sem], K (by decide) (by decide) (by decide)⟩⟩
      · obtain rfl := Option.some.inj hop
        have e5 : ac.tmps[5]?.getD undef = .int .u64 (sx : Int) := (Array.getD_eq_getD_getElem? ..).symm.trans (hlow 5 (by kernel_rfl))
        exact ⟨wanted_free rfl, .inl ⟨x, W, fun _ _ => rfl, by simp [execOp, Act.eval, e5, go_sem], K (by decide) (by decide) (by decide)⟩⟩
      · obtain rfl := Option.some.inj hop
        have e1 : ac.tmps[1]?.getD undef = .slice (some ad) (ll + 1) d := (Array.getD_eq_getD_getElem? ..).symm.trans (hlow 1 (by kernel_rfl))
        exact ⟨wanted_free rfl, .inl ⟨x, W, fun _ _ => rfl, by simp [execOp, Act.eval, e1, go_sem], K (by decide) (by decide) (by decide)⟩⟩
      · obtain rfl := Option.some.inj hop
        have e19 : ac.tmps[19]?.getD undef = .slice (some ad) (ll + 1) d := (Array.getD_eq_getD_getElem? ..).symm.trans (hdep 5 _ 19 (by kernel_rfl) rfl rfl)
        exact ⟨wanted_free rfl, .inl ⟨x, W, fun _ _ => rfl, exec_slice rfl (by simp only [Act.eval, Option.map_some, Option.map_none, Array.getD_eq_getD_getElem?, e19]; exact slice_l ad (ll + 1) d 1 W (by omega)), K (by decide) (by decide) (by decide)⟩⟩
      · obtain rfl := Option.some.inj hop
        have e18 : ac.tmps[18]?.getD undef = .int .u64 (sx : Int) := (Array.getD_eq_getD_getElem? ..).symm.trans (hdep 4 _ 18 (by kernel_rfl) rfl rfl)
        have e20 : ac.tmps[20]?.getD undef = .slice (some (tailAd ad 1 d)) ll (d - 1) := (Array.getD_eq_getD_getElem? ..).symm.trans (hdep 6 _ 20 (by kernel_rfl) rfl rfl)
        refine ⟨wanted_free rfl, .inr (.inl ⟨105, #[.int .u64 (sx : Int), .slice (some (tailAd ad 1 d)) ll (d - 1)], by simp [execOp, Act.eval, e18, e20, go_sem], (HIH.out W hS0).mono ?_⟩)⟩
        rintro e w2 ⟨v, rfl, hch, hb2⟩
        refine ⟨{ x with v := v }, (val_eq 7 { x with v := v } (fun j hj h1 hl => by rcases (by omega : j = 0 ∨ j = 1 ∨ j = 2 ∨ j = 3 ∨ j = 4 ∨ j = 5 ∨ j = 6 ∨ j = 8 ∨ j = 9 ∨ j = 10) with rfl | rfl | rfl | rfl | rfl | rfl | rfl | rfl | rfl | rfl <;> first | rfl | (exact absurd (hS8 hl) (by rw [hLi]; decide))) hLi), rfl, hS0.trans (hb2.mono hS0.size), fun _ => hch, fun _ => ?_, fun h => ?_⟩
        · rw [listed_at (by rw [hLs]; decide)]
        · rw [listed_ne (by decide)] at h; exact absurd (hS8 (hS9 h).1) (by rw [hLi]; decide)
      · obtain rfl := Option.some.inj hop
        have e14 : ac.tmps[14]?.getD undef = .int .u64 (sx : Int) := (Array.getD_eq_getD_getElem? ..).symm.trans (hdep 0 _ 14 (by kernel_rfl) rfl rfl)
        have e17 : ac.tmps[17]?.getD undef = .int .i64 (i : Int) := (Array.getD_eq_getD_getElem? ..).symm.trans (hdep 3 _ 17 (by kernel_rfl) rfl rfl)
        have e21 : ac.tmps[21]?.getD undef = .pointer x.v := (Array.getD_eq_getD_getElem? ..).symm.trans (hdep 7 _ 21 (by kernel_rfl) rfl rfl)
        refine ⟨wanted_free rfl, .inl ⟨x, W, fun _ _ => rfl, by simp [execOp, Act.eval, e14, e17, e21, go_sem], hS0, ?_, fun _ => ?_, fun h => ?_⟩⟩
        · rw [listed_ne (by decide)]; exact hS7
        · rw [listed_ne (by decide)]; exact hLd 7 (by kernel_rfl)
        · rw [listed_ne (by decide)] at h; exact absurd (hS9 h).1 (by rw [hLi]; decide)
      · obtain rfl := Option.some.inj hop
        have e22 : ac.tmps[22]?.getD undef = .agg #[.int .u64 (sx : Int), .int .i64 (i : Int), .pointer x.v] := (Array.getD_eq_getD_getElem? ..).symm.trans (hdep 8 _ 22 (by kernel_rfl) rfl rfl)
        have hb2 := (Below.refl W.heap.size W).alloc (Nat.le_refl _) (.cells #[.int .u64 (sx : Int), .int .i64 (i : Int), .pointer x.v] 119)
        refine ⟨wanted_free rfl, .inl ⟨{ x with g := W.heap.size }, W.alloc (.cells #[.int .u64 (sx : Int), .int .i64 (i : Int), .pointer x.v] 119), (val_eq 9 { x with g := W.heap.size } (fun j hj h1 hl => by rcases (by omega : j = 0 ∨ j = 1 ∨ j = 2 ∨ j = 3 ∨ j = 4 ∨ j = 5 ∨ j = 6 ∨ j = 7 ∨ j = 8 ∨ j = 10) with rfl | rfl | rfl | rfl | rfl | rfl | rfl | rfl | rfl | rfl <;> first | rfl | (exact absurd hl (by rw [hLn 10 (by kernel_rfl)]; decide))) hLi), by simp [execOp, Act.eval, e22, go_sem], hS0.alloc hS0.size _, ?_, ?_, fun _ => ⟨?_, BlockIs.new W 119 #[.int .u64 (sx : Int), .int .i64 (i : Int), .pointer x.v]⟩⟩⟩
        · rw [listed_ne (by decide)]; exact fun h => (hS7 h).below hb2
        · rw [listed_ne (by decide), listed_ne (by decide)]; exact hS8
        · rw [listed_ne (by decide)]; exact hLd 8 (by kernel_rfl)
      · obtain rfl := Option.some.inj hop
        have e23 : ac.tmps[23]?.getD undef = .pointer (some ⟨x.g, 0, none⟩) := (Array.getD_eq_getD_getElem? ..).symm.trans (hdep 9 _ 23 (by kernel_rfl) rfl rfl)
        exact ⟨wanted_free rfl, .inl ⟨x, W, fun _ _ => rfl, by simp [execOp, Act.eval, e23, go_sem], K (by decide) (by decide) (by decide)⟩⟩
end Go.Proofs.YtpoibjmkbljblaaDoor

end
section
namespace Go.Proofs.YtpoibjmkbljblaaDoor
set_option linter.unusedSimpArgs false
set_option linter.unusedVariables false
set_option linter.unusedSectionVars false
open Go.RowKit
theorem ChainF.drew {w : World} {l : List Nat} {s : Nat} {v : Option Addr} (h : ChainF w s l v) : ChainF w.drew s l v := h.below (Below.refl _ _).drew
/-- The number of sets of a chain, read off the memory. -/
def chLen (w : World) : Nat → Value → Nat
  | 0, _ => 0
  | f + 1, .pointer (some a) => (match w.cell? ⟨a.block, 2, none⟩ with
    | some v => 1 + chLen w f v
    | none => 1)
  | _ + 1, _ => 0
theorem chLen_is {w : World} : ∀ {l : List Nat} {s f : Nat} {v : Option Addr}, ChainF w s l v → l.length < f → chLen w f (.pointer v) = l.length
  | [], _, f + 1, _, h, _ => by
    have h : _ = none := h
    subst h
    rfl
  | i :: l, s, f + 1, _, h, hf => by
    obtain ⟨g, more, rfl, hb, hc⟩ := h
    have c2 := hb.cell 2
    simp only [List.getElem?_toArray, List.getElem?_cons_zero, List.getElem?_cons_succ] at c2
    have ih := chLen_is hc (f := f) (by simp at hf; omega)
    show (match w.cell? ⟨g, 2, none⟩ with | some v => 1 + chLen w f v | none => 1) = _
    rw [c2]
    show 1 + chLen w f (.pointer more) = _
    rw [ih, List.length_cons]
    omega
section
variable (A C : Option Addr) (c b : Nat) (js : List J) (en : List Int) (w : World) (hr : Row w A (jc js)) (he : Row w C (ic en)) (hok : ∀ j ∈ js, okJ j = true) (h8 : js.length ≤ 8) (hv : vecB js.length en = true) (hT : TzTab w)
include hr he hok h8 hv hT
set_option maxRecDepth 100000 in
set_option maxHeartbeats 2000000 in
theorem isShort_any (s : Nat) (hs : s < 256) (hlt : ∀ k, s.testBit k = true → k < js.length) : Calls Tryd.prog 107 #[.agg #[.slice A js.length c, .slice C en.length b], .int .u64 (s : Int)] w fun e w' => e = .returned (.bool (isShB js en s)) ∧ Below w.heap.size w w' := by
  have HIS : Hid (isShB js en s = decide (supL js en (memB s) < demL js (memB s))) := rfl
  have HSU := Lib.hid (fun W (h : Below w.heap.size w W) => supply_any A c s js W hs (hr.below h) hok hlt (hT.below h) C b en (he.below h) hv)
  have HDE := Lib.hid (fun W (h : Below w.heap.size w W) => demand_any A c s js W hs (hr.below h) hok hlt (hT.below h))
  have hb0 := (Below.refl w.heap.size w).alloc (Nat.le_refl _) (.cells #[.slice A js.length c, .slice C en.length b] 70)
  have hB0 := BlockIs.new w 70 #[.slice A js.length c, .slice C en.length b]
  rw [HIS.out]
  clear hr he hok hv hT hs hlt HIS
  generalize supL js en (memB s) = sup at *
  generalize demL js (memB s) = dem at *
  go_enter Tryd.func107, Tryd.ntmps107
  go_wp2
  have kb : ∀ {X Y : World}, (Below w.heap.size w X ∧ BlockIs X w.heap.size 70 #[.slice A js.length c, .slice C en.length b]) → Below X.heap.size X Y → (Below w.heap.size w Y ∧ BlockIs Y w.heap.size 70 #[.slice A js.length c, .slice C en.length b]) := fun h hb => ⟨h.1.trans (hb.mono h.1.size), h.2.below hb⟩
  refine wp_region_detY (by kernel_rfl) (fun L w' => Below w.heap.size w w' ∧ BlockIs w' w.heap.size 70 #[.slice A js.length c, .slice C en.length b]) (fun kk => (#[.agg #[.slice A js.length c, .slice C en.length b], .int .u64 (s : Int), .int .i64 sup, .pointer (some ⟨w.heap.size, 0, none⟩), .slice A js.length c, .int .u64 (s : Int), .int .i64 dem, .bool (decide (sup < dem)), .bool (decide (sup < dem))] : Array Value).getD kk undef) (by kernel_rfl) (by kernel_rfl) ⟨hb0.drew, hB0.drew⟩ ?_ ?_
  · intro L tm w' hall hS hsz hlow hval
    have ht : tm = #[.agg #[.slice A js.length c, .slice C en.length b], .int .u64 (s : Int), .pointer (some ⟨w.heap.size, 0, none⟩), undef, .bool (decide (sup < dem)), .agg #[.slice A js.length c, .slice C en.length b], .int .u64 (s : Int), .int .i64 sup, .pointer (some ⟨w.heap.size, 0, none⟩), .slice A js.length c, .int .u64 (s : Int), .int .i64 dem, .bool (decide (sup < dem))] := by
      refine arr_of _ _ hsz fun t ht => ?_
      have ht' : t < 13 := ht
      rcases (by omega : t = 0 ∨ t = 1 ∨ t = 2 ∨ t = 3 ∨ t = 4 ∨ t = 5 ∨ t = 6 ∨ t = 7 ∨ t = 8 ∨ t = 9 ∨ t = 10 ∨ t = 11 ∨ t = 12) with rfl | rfl | rfl | rfl | rfl | rfl | rfl | rfl | rfl | rfl | rfl | rfl | rfl
      · exact hlow 0 (by kernel_rfl)
      · exact hlow 1 (by kernel_rfl)
      · exact hlow 2 (by kernel_rfl)
      · exact hlow 3 (by kernel_rfl)
      · exact hval 8 _ 4 rfl rfl
      · exact hval 0 _ 5 rfl rfl
      · exact hval 1 _ 6 rfl rfl
      · exact hval 2 _ 7 rfl rfl
      · exact hval 3 _ 8 rfl rfl
      · exact hval 4 _ 9 rfl rfl
      · exact hval 5 _ 10 rfl rfl
      · exact hval 6 _ 11 rfl rfl
      · exact hval 7 _ 12 rfl rfl
    subst ht
    have HF := Lib.hid hS
    clear hlow hval hsz hall hS
    go_wp2
    go_ret
    exact ⟨rfl, HF.out.1⟩
  · intro L ac w' q op hLs hop hLi hLd hLn hS0 hlow hdep _
    have hq : q < 9 := (Array.getElem?_eq_some_iff.1 hop).1
    rcases (by omega : q = 0 ∨ q = 1 ∨ q = 2 ∨ q = 3 ∨ q = 4 ∨ q = 5 ∨ q = 6 ∨ q = 7 ∨ q = 8) with rfl | rfl | rfl | rfl | rfl | rfl | rfl | rfl | rfl
    · obtain rfl := Option.some.inj hop
      have e2 : ac.tmps[2]?.getD undef = .pointer (some ⟨w.heap.size, 0, none⟩) := (Array.getD_eq_getD_getElem? ..).symm.trans (hlow 2 (by kernel_rfl))
      have q0 := hS0.2.cell 0
      have q1 := hS0.2.cell 1
      simp only [List.getElem?_toArray, List.getElem?_cons_zero, List.getElem?_cons_succ] at q0 q1
      exact ⟨wanted_free rfl, .inl (.inl ⟨w', by simp [execOp, Act.eval, e2, q0, q1, go_sem], hS0⟩)⟩
    · obtain rfl := Option.some.inj hop
      have e1 : ac.tmps[1]?.getD undef = .int .u64 (s : Int) := (Array.getD_eq_getD_getElem? ..).symm.trans (hlow 1 (by kernel_rfl))
      exact ⟨wanted_free rfl, .inl (.inl ⟨w', by simp [execOp, Act.eval, e1, go_sem], hS0⟩)⟩
    · obtain rfl := Option.some.inj hop
      have e5 : ac.tmps[5]?.getD undef = .agg #[.slice A js.length c, .slice C en.length b] := (Array.getD_eq_getD_getElem? ..).symm.trans (hdep 0 _ 5 (by kernel_rfl) rfl rfl)
      have e6 : ac.tmps[6]?.getD undef = .int .u64 (s : Int) := (Array.getD_eq_getD_getElem? ..).symm.trans (hdep 1 _ 6 (by kernel_rfl) rfl rfl)
      refine ⟨wanted_free rfl, .inl (.inr ⟨56, #[.agg #[.slice A js.length c, .slice C en.length b], .int .u64 (s : Int)], by simp [execOp, Act.eval, e5, e6, go_sem], (HSU.out w' hS0.1).mono ?_⟩)⟩
      rintro e w2 ⟨rfl, hb⟩
      exact ⟨rfl, kb hS0 hb⟩
    · obtain rfl := Option.some.inj hop
      have e2 : ac.tmps[2]?.getD undef = .pointer (some ⟨w.heap.size, 0, none⟩) := (Array.getD_eq_getD_getElem? ..).symm.trans (hlow 2 (by kernel_rfl))
      exact ⟨wanted_free rfl, .inl (.inl ⟨w', by simp [execOp, Act.eval, e2, go_sem], hS0⟩)⟩
    · obtain rfl := Option.some.inj hop
      have e8 : ac.tmps[8]?.getD undef = .pointer (some ⟨w.heap.size, 0, none⟩) := (Array.getD_eq_getD_getElem? ..).symm.trans (hdep 3 _ 8 (by kernel_rfl) rfl rfl)
      have q0 := hS0.2.cell 0
      have q1 := hS0.2.cell 1
      simp only [List.getElem?_toArray, List.getElem?_cons_zero, List.getElem?_cons_succ] at q0 q1
      exact ⟨wanted_free rfl, .inl (.inl ⟨w', by simp [execOp, Act.eval, e8, q0, go_sem], hS0⟩)⟩
    · obtain rfl := Option.some.inj hop
      have e1 : ac.tmps[1]?.getD undef = .int .u64 (s : Int) := (Array.getD_eq_getD_getElem? ..).symm.trans (hlow 1 (by kernel_rfl))
      exact ⟨wanted_free rfl, .inl (.inl ⟨w', by simp [execOp, Act.eval, e1, go_sem], hS0⟩)⟩
    · obtain rfl := Option.some.inj hop
      have e9 : ac.tmps[9]?.getD undef = .slice A js.length c := (Array.getD_eq_getD_getElem? ..).symm.trans (hdep 4 _ 9 (by kernel_rfl) rfl rfl)
      have e10 : ac.tmps[10]?.getD undef = .int .u64 (s : Int) := (Array.getD_eq_getD_getElem? ..).symm.trans (hdep 5 _ 10 (by kernel_rfl) rfl rfl)
      refine ⟨wanted_free rfl, .inl (.inr ⟨50, #[.slice A js.length c, .int .u64 (s : Int)], by simp [execOp, Act.eval, e9, e10, go_sem], (HDE.out w' hS0.1).mono ?_⟩)⟩
      rintro e w2 ⟨rfl, hb⟩
      exact ⟨rfl, kb hS0 hb⟩
    · obtain rfl := Option.some.inj hop
      have e7 : ac.tmps[7]?.getD undef = .int .i64 sup := (Array.getD_eq_getD_getElem? ..).symm.trans (hdep 2 _ 7 (by kernel_rfl) rfl rfl)
      have e11 : ac.tmps[11]?.getD undef = .int .i64 dem := (Array.getD_eq_getD_getElem? ..).symm.trans (hdep 6 _ 11 (by kernel_rfl) rfl rfl)
      exact ⟨wanted_free rfl, .inl (.inl ⟨w', by simp [execOp, Act.eval, e7, e11, go_sem], hS0⟩)⟩
    · obtain rfl := Option.some.inj hop
      have e12 : ac.tmps[12]?.getD undef = .bool (decide (sup < dem)) := (Array.getD_eq_getD_getElem? ..).symm.trans (hdep 7 _ 12 (by kernel_rfl) rfl rfl)
      exact ⟨wanted_free rfl, .inl (.inl ⟨w', by simp [execOp, Act.eval, e12, go_sem], hS0⟩)⟩
set_option maxRecDepth 100000 in
set_option maxHeartbeats 2000000 in
theorem shortSet_any : Calls Tryd.prog 59 #[.agg #[.slice A js.length c, .slice C en.length b]] w fun e w' => e = .returned (.tuple #[.int .u64 ((shL js en).getD 0 : Nat), .bool (shL js en).isSome]) ∧ Below w.heap.size w w' := by
  have hel := (vec_out hv).1
  have hve : vecB en.length en = true := by rw [hel]; exact hv
  have hb0 := (Below.refl w.heap.size w).alloc (Nat.le_refl _) (.cells #[.slice A js.length c, .slice C en.length b] 70)
  have hB0 := BlockIs.new w 70 #[.slice A js.length c, .slice C en.length b]
  have hpl : (eoL en).length = en.length := eoL_len en
  have HOR : Hid (∀ W, Below w.heap.size w W → Calls Tryd.prog 106 #[.agg #[.slice A js.length c, .slice C en.length b]] W fun e w' => ∃ v, e = .returned v ∧ w'.ownsRow W.heap.size 3 1 v (eoL en).length (ic (natI (eoL en))) ∧ Below W.heap.size W w') := fun W h => by
    have h1 := orderV_any A C c b en W (by omega) (he.below h) hve (hT.below h)
    rw [hpl, ← hel]
    exact h1
  have hin : ∀ x ∈ eoL en, x < js.length := fun x hx => by have := eoL_in en hx; omega
  have HSB := Lib.hid (fun k (hk : k ≤ (eoL en).length) => And.intro (setP_lt (fun x hx => Nat.lt_of_lt_of_le (hin x hx) h8) k hk) (fun i => setP_bit h8 hin (i := i) k hk))
  have HSH := Lib.hid (fun s (hs : s < 256) (hlt : ∀ k, s.testBit k = true → k < js.length) W (h : Below w.heap.size w W) => isShort_any A C c b js en W (hr.below h) (he.below h) hok h8 hv (hT.below h) s hs hlt)
  have HFB := Lib.hid (fun W (B : Option Addr) (d : Nat) (hd : (eoL en).length ≤ d) (hq : Row W B (ic (natI (eoL en)))) => firstBehind_any (eoL en) 0 B d W (by omega) (fun x hx => Nat.lt_of_lt_of_le (hin x hx) h8) (by omega) hd hq)
  have HL : Hid (shL js en = shGo js en (eoL en) (eoL en).length 0) := by show _ = _; unfold shL; rw [hpl]
  have HSS := Lib.hid (fun k (hk : k < (eoL en).length) => setP_succ (p := eoL en) hk)
  have HGO : Hid (∀ f k, shGo js en (eoL en) (f + 1) k = if isShB js en (setP (eoL en) (k + 1)) then some (setP (eoL en) (k + 1)) else shGo js en (eoL en) f (k + 1)) := fun _ _ => rfl
  have HG0 : Hid (∀ k, shGo js en (eoL en) 0 k = none) := fun _ => rfl
  have HZ : Hid (setP (eoL en) 0 = 0) := rfl
  have hp8 : (eoL en).length ≤ 8 := by omega
  have q0 := hB0.cell 0
  have q1 := hB0.cell 1
  simp only [List.getElem?_toArray, List.getElem?_cons_zero, List.getElem?_cons_succ] at q0 q1
  have H0 := Lib.hid (And.intro hb0 hB0)
  rw [HL.out]
  clear hr he hok hv hT HL hve hel hin hpl hb0 hB0 h8
  generalize eoL en = p at *
  go_enter Tryd.func59, Tryd.ntmps59
  go_wp2_with fail
  refine (HOR.out _ H0.out.1).mono ?_
  rintro e w1 ⟨v, rfl, hown, hb1⟩
  obtain ⟨B, d, rfl, hcd, hrow⟩ := own_slice hown
  have H1 := Lib.hid (And.intro (H0.out.1.trans (hb1.mono H0.out.1.size)) (H0.out.2.below hb1))
  have HC := Lib.hid (HFB.out w1 B d hcd hrow)
  clear hown hb1 hrow H0 HFB HOR q0 q1 hcd
  go_wp2_with fail
  refine HC.out.mono ?_
  rintro e w2 ⟨pv, rfl, hch, hb2⟩
  have H2 := Lib.hid (And.intro (And.intro (H1.out.1.trans (hb2.mono H1.out.1.size)) (H1.out.2.below hb2)) hch)
  clear hb2 hch HC H1
  go_wp2
  go_loopw [4] (fun fv wr => ∃ (k : Nat) (pv : Option Addr), k ≤ p.length ∧ fv = .pointer pv ∧ Hid (shGo js en p p.length 0 = shGo js en p (p.length - k) k) ∧ Hid ((Below w.heap.size w wr ∧ BlockIs wr w.heap.size 70 #[.slice A js.length c, .slice C en.length b]) ∧ ChainF wr (setP p k) (p.drop k) pv)) (fun fv wr => chLen wr 9 fv)
  case atStart => exact ⟨0, pv, Nat.zero_le _, rfl, rfl, by rw [HZ.out]; exact H2.out⟩
  case round =>
    obtain ⟨k, pv, hk, rfl, HG, HI⟩ := hrel
    clear H2 HZ
    by_cases hlt : k < p.length
    · have hch := HI.out.2
      rw [List.drop_eq_getElem_cons hlt] at hch
      have hml := chLen_is (f := 9) hch (by simp; omega)
      obtain ⟨g, more, rfl, hbk, hcm⟩ := hch
      rw [← HSS.out k hlt] at hbk hcm
      obtain ⟨hs, hbt⟩ := HSB.out (k + 1) (by omega)
      have HS := Lib.hid (HSH.out _ hs hbt _ HI.out.1.1.drew)
      obtain ⟨ff, hff⟩ : ∃ ff, p.length - k = ff + 1 := ⟨p.length - k - 1, by omega⟩
      have hGG := HG.out
      rw [hff, HGO.out] at hGG
      have hf2 : p.length - (k + 1) = ff := by omega
      have HGG := Lib.hid hGG
      have HF2 := Lib.hid hf2
      have HMM := Lib.hid hml
      have HBK := Lib.hid (And.intro hbk hcm)
      have q0 := HI.out.1.2.drew.cell 0
      have q1 := HI.out.1.2.drew.cell 1
      have r0 := hbk.drew.cell 0
      have hsx : setP p (k + 1) < 256 := hs
      simp only [List.getElem?_toArray, List.getElem?_cons_zero, List.getElem?_cons_succ] at q0 q1 r0
      have HD := Lib.hid HI.out.1.1.drew
      clear hff hGG hf2 hml hbk hcm hs hbt HSH HGO HSS HSB
      generalize p[k] = pk at *
      cases hsh : isShB js en (setP p (k + 1))
      · rw [hsh] at HS HGG
        obtain ⟨sx, hsx2⟩ : ∃ sx, setP p (k + 1) = sx := ⟨_, rfl⟩
        rw [hsx2] at HS HGG HBK hsx r0
        have HXX := Lib.hid hsx2
        clear hsx2
        go_wp2
        go_region_with (go_at_call 107; refine HS.out.mono ?_; rintro e w3 ⟨rfl, hb3⟩)
        all_goals
          have hbw := HI.out.1.1.drew.trans (hb3.mono HI.out.1.1.drew.size)
          have H3 := Lib.hid (And.intro (And.intro hbw (HI.out.1.2.drew.below hb3)) (And.intro (HBK.out.1.drew.below hb3) (ChainF.below hb3 (ChainF.drew HBK.out.2))))
          have c0 := H3.out.2.1.cell 0
          have c2 := H3.out.2.1.cell 2
          simp only [List.getElem?_toArray, List.getElem?_cons_zero, List.getElem?_cons_succ] at c0 c2
          clear hb3 hbw HS q0 q1 r0 HD
          have HFN := Lib.hid (HG.out)
          go_wp2
          go_roundw
          case rel => exact ⟨k + 1, more, by omega, rfl, Lib.hid (by rw [HGG.out]; simp only [Bool.false_eq_true, if_false]; rw [HF2.out]), Lib.hid (And.intro H3.out.1 (by rw [HXX.out]; exact H3.out.2.2))⟩
          case measure =>
            rw [chLen_is (f := 9) H3.out.2.2 (by simp; omega), HMM.out]
            simp
      · rw [hsh] at HS HGG
        obtain ⟨sx, hsx2⟩ : ∃ sx, setP p (k + 1) = sx := ⟨_, rfl⟩
        rw [hsx2] at HS HGG HBK hsx r0
        have HXX := Lib.hid hsx2
        clear hsx2
        go_wp2
        go_region_with (go_at_call 107; refine HS.out.mono ?_; rintro e w3 ⟨rfl, hb3⟩)
        all_goals
          have hbw := HI.out.1.1.drew.trans (hb3.mono HI.out.1.1.drew.size)
          have H3 := Lib.hid (And.intro (And.intro hbw (HI.out.1.2.drew.below hb3)) (And.intro (HBK.out.1.drew.below hb3) (ChainF.below hb3 (ChainF.drew HBK.out.2))))
          have c0 := H3.out.2.1.cell 0
          have c2 := H3.out.2.1.cell 2
          simp only [List.getElem?_toArray, List.getElem?_cons_zero, List.getElem?_cons_succ] at c0 c2
          clear hb3 hbw HS q0 q1 r0 HD
          go_wp2
          go_ret2
          exact ⟨by rw [HGG.out]; rfl, H3.out.1.1⟩
    · obtain rfl : k = p.length := by omega
      have hch := HI.out.2
      rw [List.drop_eq_nil_of_le (Nat.le_refl _)] at hch
      have hch : pv = none := hch
      subst hch
      have HN := HG.out
      rw [Nat.sub_self, HG0.out] at HN
      have HNN := Lib.hid HN
      clear HN HG
      go_wp2
      go_ret2
      exact ⟨by rw [HNN.out]; rfl, HI.out.1.1⟩
end
end Go.Proofs.YtpoibjmkbljblaaDoor

end
section
namespace Go.Proofs.YtpoibjmkbljblaaDoor
open Go.RowKit
theorem but_q0 {a0 b0 v1 v10 v11 v12 v2 v3 v4 v5 v6 v7 v8 v9 : Value} (j : Nat) (h0 : j ≠ 0) : (#[a0, v1, v2, v3, v4, v5, v6, v7, v8, v9, v10, v11, v12] : Array Value).getD j undef = (#[b0, v1, v2, v3, v4, v5, v6, v7, v8, v9, v10, v11, v12] : Array Value).getD j undef := by
  rcases (by omega : j = 1 ∨ j = 2 ∨ j = 3 ∨ j = 4 ∨ j = 5 ∨ j = 6 ∨ j = 7 ∨ j = 8 ∨ j = 9 ∨ j = 10 ∨ j = 11 ∨ j = 12 ∨ 12 < j) with rfl | rfl | rfl | rfl | rfl | rfl | rfl | rfl | rfl | rfl | rfl | rfl | h
  all_goals first | rfl | (simp only [Array.getD_eq_getD_getElem?]; rw [Array.getElem?_eq_none (by simp; omega), Array.getElem?_eq_none (by simp; omega)])
theorem but_q4 {a4 b4 v0 v1 v10 v11 v12 v2 v3 v5 v6 v7 v8 v9 : Value} (j : Nat) (h4 : j ≠ 4) : (#[v0, v1, v2, v3, a4, v5, v6, v7, v8, v9, v10, v11, v12] : Array Value).getD j undef = (#[v0, v1, v2, v3, b4, v5, v6, v7, v8, v9, v10, v11, v12] : Array Value).getD j undef := by
  rcases (by omega : j = 0 ∨ j = 1 ∨ j = 2 ∨ j = 3 ∨ j = 5 ∨ j = 6 ∨ j = 7 ∨ j = 8 ∨ j = 9 ∨ j = 10 ∨ j = 11 ∨ j = 12 ∨ 12 < j) with rfl | rfl | rfl | rfl | rfl | rfl | rfl | rfl | rfl | rfl | rfl | rfl | h
  all_goals first | rfl | (simp only [Array.getD_eq_getD_getElem?]; rw [Array.getElem?_eq_none (by simp; omega), Array.getElem?_eq_none (by simp; omega)])
theorem but_q6 {a6 b6 v0 v1 v10 v11 v12 v2 v3 v4 v5 v7 v8 v9 : Value} (j : Nat) (h6 : j ≠ 6) : (#[v0, v1, v2, v3, v4, v5, a6, v7, v8, v9, v10, v11, v12] : Array Value).getD j undef = (#[v0, v1, v2, v3, v4, v5, b6, v7, v8, v9, v10, v11, v12] : Array Value).getD j undef := by
  rcases (by omega : j = 0 ∨ j = 1 ∨ j = 2 ∨ j = 3 ∨ j = 4 ∨ j = 5 ∨ j = 7 ∨ j = 8 ∨ j = 9 ∨ j = 10 ∨ j = 11 ∨ j = 12 ∨ 12 < j) with rfl | rfl | rfl | rfl | rfl | rfl | rfl | rfl | rfl | rfl | rfl | rfl | h
  all_goals first | rfl | (simp only [Array.getD_eq_getD_getElem?]; rw [Array.getElem?_eq_none (by simp; omega), Array.getElem?_eq_none (by simp; omega)])
theorem but_q7 {a7 b7 v0 v1 v10 v11 v12 v2 v3 v4 v5 v6 v8 v9 : Value} (j : Nat) (h7 : j ≠ 7) : (#[v0, v1, v2, v3, v4, v5, v6, a7, v8, v9, v10, v11, v12] : Array Value).getD j undef = (#[v0, v1, v2, v3, v4, v5, v6, b7, v8, v9, v10, v11, v12] : Array Value).getD j undef := by
  rcases (by omega : j = 0 ∨ j = 1 ∨ j = 2 ∨ j = 3 ∨ j = 4 ∨ j = 5 ∨ j = 6 ∨ j = 8 ∨ j = 9 ∨ j = 10 ∨ j = 11 ∨ j = 12 ∨ 12 < j) with rfl | rfl | rfl | rfl | rfl | rfl | rfl | rfl | rfl | rfl | rfl | rfl | h
  all_goals first | rfl | (simp only [Array.getD_eq_getD_getElem?]; rw [Array.getElem?_eq_none (by simp; omega), Array.getElem?_eq_none (by simp; omega)])
theorem but_q11 {a11 a12 b11 b12 v0 v1 v10 v2 v3 v4 v5 v6 v7 v8 v9 : Value} (j : Nat) (h11 : j ≠ 11) (h12 : j ≠ 12) : (#[v0, v1, v2, v3, v4, v5, v6, v7, v8, v9, v10, a11, a12] : Array Value).getD j undef = (#[v0, v1, v2, v3, v4, v5, v6, v7, v8, v9, v10, b11, b12] : Array Value).getD j undef := by
  rcases (by omega : j = 0 ∨ j = 1 ∨ j = 2 ∨ j = 3 ∨ j = 4 ∨ j = 5 ∨ j = 6 ∨ j = 7 ∨ j = 8 ∨ j = 9 ∨ j = 10 ∨ 12 < j) with rfl | rfl | rfl | rfl | rfl | rfl | rfl | rfl | rfl | rfl | rfl | h
  all_goals first | rfl | (simp only [Array.getD_eq_getD_getElem?]; rw [Array.getElem?_eq_none (by simp; omega), Array.getElem?_eq_none (by simp; omega)])
theorem joTo_rangeS (rk : Nat → Int) (n i : Nat) (h : i < n) : joTo rk (List.range n) (i + 1) = insJ rk i (joTo rk (List.range n) i) := by
  have e : (List.range n).getD i 0 = i := by simp [List.getD, h]
  show insJ rk ((List.range n).getD i 0) _ = _
  rw [e]
section
variable (R : Option Addr) (cR : Nat) (en : List Int) (w : World) (hr : Row w R (ic en)) (hn : en.length ≤ 8)
include hr hn
set_option maxRecDepth 100000 in
set_option maxHeartbeats 4000000 in
theorem l10Sorted_any : Calls Tryd.prog 65 #[.slice R en.length cR] w fun e w' => ∃ v, e = .returned v ∧ w'.ownsRow w.heap.size 3 1 v en.length (ic (natI (eoL en))) ∧ Below w.heap.size w w' := by
  obtain ⟨i0, hi, hz0, hz1, hz2⟩ := info_parts infoI
  have hb0 := (Below.refl w.heap.size w).alloc (Nat.le_refl _) (.cells #[] 3)
  have hown0 : (w.alloc (.cells #[] 3)).ownsRow w.heap.size 3 1 (.slice (some ⟨w.heap.size, 0, none⟩) 0 0) 0 [] := World.ownsRow_made w #[] 0 (Nat.le_refl _) (by unfold maxLen; omega) rfl
  have H0 := Lib.hid (And.intro hown0 hb0)
  have HRK : Hid (∀ W, Below w.heap.size w W → ∀ j, j < en.length → ∃ ra, R = some ra ∧ W.cell? (ra.add j) = some (.int .i64 (en.getD j 0))) := fun W hb j hj => by
    obtain ⟨ra, h1, h2⟩ := (hr.below hb).int hj
    exact ⟨ra, h1, by rw [h2, getD_at en 0 hj]⟩
  have HRD : Hid (∀ j, rkE en j = 2000 - en.getD j 0) := fun _ => rfl
  have HE : Hid (eoL en = joL (rkE en) (List.range en.length)) := rfl
  rw [HE.out]
  clear hown0 hb0 hr HE
  generalize rkE en = rk at *
  go_enter Tryd.func65, Tryd.ntmps65
  go_wp2
  go_loopw [3, 4] (fun v i wr => ∃ (k : Nat) (ad : Addr) (cc : Nat), k ≤ en.length ∧ v = .slice (some ad) k cc ∧ i = .int .i64 (k : Int) ∧ Hid (wr.ownsRow w.heap.size 3 1 (.slice (some ad) k cc) k (ic (natI (joTo rk (List.range en.length) k)))) ∧ Hid (Below w.heap.size w wr)) (fun _ i _ => en.length - (intOf i).toNat)
  case atStart => exact ⟨0, _, 0, Nat.zero_le _, rfl, rfl, H0.out.1, H0.out.2⟩
  case round =>
    obtain ⟨i, ad, cc, hik, rfl, rfl, HO, HW⟩ := hrel
    clear H0
    by_cases hlt : i < en.length
    · have hi0 : (0 : Int) ≤ i := by omega
      have hi1 : (i : Int) < en.length := by omega
      have hol := joTo_len rk (List.range en.length) i
      have HINS := Lib.hid (joTo_rangeS rk en.length i hlt)
      have HOUT : Hid (∀ a ∈ joTo rk (List.range en.length) i, a < i) := fun a ha => by
        have h1 := (joTo_perm rk (List.range en.length) i (by rw [List.length_range]; omega)).mem_iff.1 ha
        rw [List.take_range] at h1
        have := List.mem_range.1 h1
        omega
      generalize joTo rk (List.range en.length) i = out0 at *
      have hol1 : out0.length ≤ i := by omega
      have hol2 : i ≤ out0.length := by omega
      clear hol
      obtain ⟨ra, hra, _⟩ := HRK.out wr HW.out i hlt
      subst hra
      obtain ⟨wo, hwo⟩ : ∃ x, x = wr := ⟨wr, rfl⟩
      subst hwo
      go_wp2
      go_loopw [5] (fun kv wi => ∃ k : Nat, k ≤ i ∧ kv = .int .i64 (k : Int) ∧ Hid (∀ a ∈ out0.take k, fB rk a i = true) ∧ Hid (Below wo.heap.size wo wi)) (fun kv _ => i - (intOf kv).toNat)
      case atStart => exact ⟨0, Nat.zero_le _, rfl, (fun a h => by cases h), Below.refl _ _⟩
      case round =>
        obtain ⟨k, hk, rfl, HG, HI⟩ := hrel
        have HWi := Lib.hid (HW.out.trans (HI.out.mono HW.out.size))
        have HOi := Lib.hid (own_blw HO.out HI.out)
        have HRow := Lib.hid (Row.of_own HOi.out)
        by_cases hki : k < i
        · have hko : k < out0.length := by omega
          have hk0 : (0 : Int) ≤ k := by omega
          have hk1 : (k : Int) < i := by omega
          obtain ⟨ad', hA', hc0⟩ := HRow.out.nat hko
          injection hA' with hA'
          subst hA'
          have dk : decide (k < i) = true := decide_eq_true hki
          have hx0 := HOUT.out _ (List.getElem_mem hko)
          obtain ⟨ra', hra, hcx⟩ := HRK.out wr HWi.out out0[k] (by omega)
          injection hra with hra
          subst hra
          obtain ⟨ra', hra, hci⟩ := HRK.out wr HWi.out i hlt
          injection hra with hra
          subst hra
          have hfb := fB_up rk hx0
          rw [HRD.out, HRD.out] at hfb
          have HST : Hid (fB rk out0[k] i = true → ∀ a ∈ out0.take (k + 1), fB rk a i = true) := fun h a ha => by
            rw [List.take_succ_eq_append_getElem hko] at ha
            rcases List.mem_append.1 ha with h1 | h1
            · exact HG.out a h1
            · rw [List.mem_singleton.1 h1]; exact h
          have HSF : Hid (fB rk out0[k] i = false → joTo rk (List.range en.length) (i + 1) = out0.take k ++ [i] ++ out0.drop k) := fun h => HINS.out.trans (insJ_at rk i out0 k (by omega) HG.out (fun _ => h))
          obtain ⟨x0, hx0e⟩ : ∃ x0, out0[k] = x0 := ⟨_, rfl⟩
          rw [hx0e] at hc0 hx0 hcx hfb HST HSF
          have hxn : (x0 : Int) < en.length := by omega
          have hx00 : (0 : Int) ≤ x0 := by omega
          clear hx0e hko hx0
          generalize en.getD x0 0 = rx at *
          generalize en.getD i 0 = ri at *
          by_cases hge : rx ≤ ri
          · rw [decide_eq_true (by omega)] at hfb
            have HG2 := Lib.hid (HST.out hfb)
            clear hfb HST HSF
            go_wp2
            go_quiet (fail)
            go_wp2
            go_roundw
            case rel => exact ⟨k + 1, by omega, by go_num, HG2.out, below_drewN HI.out _⟩
            case measure => simp [intOf]; omega
          · rw [decide_eq_false (by omega)] at hfb
            have HF := Lib.hid (HSF.out hfb)
            have hge2 : decide (rx ≤ ri) = false := decide_eq_false hge
            clear hfb HST HSF
            go_wp2
            go_quiet (fail)
            go_wp2
            generalize hw1 : wr.drewN nq = w1
            have HRW : Hid (Row w1 (some ad) (ic (natI out0))) := by rw [← hw1]; exact HRow.out.drewN _
            have hbw1 : Below wo.heap.size wo w1 := by rw [← hw1]; exact below_drewN HI.out _
            have HBW := Lib.hid (HW.out.trans (hbw1.mono HW.out.size))
            have hcc : i ≤ cc := (slice_some HO.out).2
            have HF2 : Hid (ic ((natI out0).take k ++ [(i : Int)] ++ (natI out0).drop k) = ic (natI (joTo rk (List.range en.length) (i + 1)))) := by show _ = _; rw [HF.out]; unfold natI; simp
            have hoL : (natI out0).length = out0.length := by unfold natI; simp
            generalize natI out0 = out at *
            have hol1 : out.length ≤ i := by omega
            have hol2 : i ≤ out.length := by omega
            clear hw1 hbw1 hoL HF HINS HG HI HWi HOi HRow
            refine wp_region_detG (by kernel_rfl) (fun x L w' => Below w1.heap.size w1 w' ∧ (L.getD 0 true = true → L.getD 4 true = false → w'.ownsRow w1.heap.size 3 1 (.slice (some ⟨x.1, 0, none⟩) 0 0) 0 []) ∧ (L.getD 4 true = true → L.getD 7 true = false → w'.ownsRow w1.heap.size 3 1 x.2.1 k (ic (out.take k))) ∧ (L.getD 6 true = true → L.getD 7 true = false → BlockIs w' x.2.2.1 3 #[.int .i64 (i : Int)]) ∧ (L.getD 7 true = true → L.getD 11 true = false → w'.ownsRow w1.heap.size 3 1 x.2.2.2.1 (k + 1) (ic (out.take k ++ [(i : Int)]))) ∧ (L.getD 11 true = true → L.getD 7 true = true ∧ w'.ownsRow w1.heap.size 3 1 x.2.2.2.2 (i + 1) (ic (out.take k ++ [(i : Int)] ++ out.drop k))) ∧ (L.getD 7 true = true → L.getD 4 true = true))
              (fun x kk => #[.slice (some ⟨x.1, 0, none⟩) 0 0, .slice (some ad) i cc, .int .i64 (k : Int), .slice (some ad) k cc, x.2.1, .int .i64 (i : Int), .slice (some ⟨x.2.2.1, 0, none⟩) 1 1, x.2.2.2.1, .slice (some ad) i cc, .int .i64 (k : Int), .slice (some (tailAd ad k cc)) (i - k) (cc - k), x.2.2.2.2, x.2.2.2.2].getD kk undef) (0, undef, 0, undef, undef) (by kernel_rfl) (by kernel_rfl) ⟨(Below.refl _ _).drew, (fun h => by cases h), (fun h => by cases h), (fun h => by cases h), (fun h => by cases h), (fun h => by cases h), fun h => by cases h⟩ ?_ ?_
            · intro x L tm w' hall hS hsz hlow hval
              have ht : tm = #[.slice (some ra) en.length cR, undef, .slice none 0 0, x.2.2.2.2, .int .i64 (i : Int), .int .i64 (k : Int), .slice (some ⟨w.heap.size, 0, none⟩) 0 0, .int .i64 (i : Int), .slice (some ra) en.length cR, .int .i64 (en.length : Int), .bool true, u11, u12, .int .i64 (k : Int), .slice (some ad) i cc, .int .i64 (i : Int), .bool true, .bool true, .slice (some ra) en.length cR, .slice (some ad) i cc, .int .i64 (k : Int), .pointer (some (ad.add k)), .int .i64 (x0 : Int), .pointer (some (ra.add x0)), .int .i64 rx, .slice (some ra) en.length cR, .int .i64 (i : Int), .pointer (some (ra.add i)), .int .i64 ri, .bool false, .bool false, u31, u32, .slice (some ⟨x.1, 0, none⟩) 0 0, .slice (some ad) i cc, .int .i64 (k : Int), .slice (some ad) k cc, x.2.1, .int .i64 (i : Int), .slice (some ⟨x.2.2.1, 0, none⟩) 1 1, x.2.2.2.1, .slice (some ad) i cc, .int .i64 (k : Int), .slice (some (tailAd ad k cc)) (i - k) (cc - k), x.2.2.2.2, undef] := by
                refine arr_of _ _ hsz fun t ht => ?_
                have ht' : t < 46 := ht
                rcases (by omega : t = 0 ∨ t = 1 ∨ t = 2 ∨ t = 3 ∨ t = 4 ∨ t = 5 ∨ t = 6 ∨ t = 7 ∨ t = 8 ∨ t = 9 ∨ t = 10 ∨ t = 11 ∨ t = 12 ∨ t = 13 ∨ t = 14 ∨ t = 15 ∨ t = 16 ∨ t = 17 ∨ t = 18 ∨ t = 19 ∨ t = 20 ∨ t = 21 ∨ t = 22 ∨ t = 23 ∨ t = 24 ∨ t = 25 ∨ t = 26 ∨ t = 27 ∨ t = 28 ∨ t = 29 ∨ t = 30 ∨ t = 31 ∨ t = 32 ∨ t = 33 ∨ t = 34 ∨ t = 35 ∨ t = 36 ∨ t = 37 ∨ t = 38 ∨ t = 39 ∨ t = 40 ∨ t = 41 ∨ t = 42 ∨ t = 43 ∨ t = 44 ∨ t = 45) with rfl | rfl | rfl | rfl | rfl | rfl | rfl | rfl | rfl | rfl | rfl | rfl | rfl | rfl | rfl | rfl | rfl | rfl | rfl | rfl | rfl | rfl | rfl | rfl | rfl | rfl | rfl | rfl | rfl | rfl | rfl | rfl | rfl | rfl | rfl | rfl | rfl | rfl | rfl | rfl | rfl | rfl | rfl | rfl | rfl | rfl
                · exact hlow 0 (by kernel_rfl)
                · exact hlow 1 (by kernel_rfl)
                · exact hlow 2 (by kernel_rfl)
                · exact hval 12 _ 3 rfl rfl
                · exact hlow 4 (by kernel_rfl)
                · exact hlow 5 (by kernel_rfl)
                · exact hlow 6 (by kernel_rfl)
                · exact hlow 7 (by kernel_rfl)
                · exact hlow 8 (by kernel_rfl)
                · exact hlow 9 (by kernel_rfl)
                · exact hlow 10 (by kernel_rfl)
                · exact hlow 11 (by kernel_rfl)
                · exact hlow 12 (by kernel_rfl)
                · exact hlow 13 (by kernel_rfl)
                · exact hlow 14 (by kernel_rfl)
                · exact hlow 15 (by kernel_rfl)
                · exact hlow 16 (by kernel_rfl)
                · exact hlow 17 (by kernel_rfl)
                · exact hlow 18 (by kernel_rfl)
                · exact hlow 19 (by kernel_rfl)
                · exact hlow 20 (by kernel_rfl)
                · exact hlow 21 (by kernel_rfl)
                · exact hlow 22 (by kernel_rfl)
                · exact hlow 23 (by kernel_rfl)
                · exact hlow 24 (by kernel_rfl)
                · exact hlow 25 (by kernel_rfl)
                · exact hlow 26 (by kernel_rfl)
                · exact hlow 27 (by kernel_rfl)
                · exact hlow 28 (by kernel_rfl)
                · exact hlow 29 (by kernel_rfl)
                · exact hlow 30 (by kernel_rfl)
                · exact hlow 31 (by kernel_rfl)
                · exact hlow 32 (by kernel_rfl)
                · exact hval 0 _ 33 rfl rfl
                · exact hval 1 _ 34 rfl rfl
                · exact hval 2 _ 35 rfl rfl
                · exact hval 3 _ 36 rfl rfl
                · exact hval 4 _ 37 rfl rfl
                · exact hval 5 _ 38 rfl rfl
                · exact hval 6 _ 39 rfl rfl
                · exact hval 7 _ 40 rfl rfl
                · exact hval 8 _ 41 rfl rfl
                · exact hval 9 _ 42 rfl rfl
                · exact hval 10 _ 43 rfl rfl
                · exact hval 11 _ 44 rfl rfl
                · exact hlow 45 (by kernel_rfl)
              subst ht
              clear hlow hval hsz
              obtain ⟨hbz, _, _, _, _, hS5, _⟩ := hS
              have hfin := (hS5 (hall 11 (by decide))).2
              have HO4 := Lib.hid (And.intro hfin hbz)
              clear hS5 hbz hall hfin
              obtain ⟨g4, _, ⟨c4, hx4⟩, _⟩ := own_block2S HO4.out.1 (by omega)
              generalize x.2.2.2.2 = y4 at *
              subst hx4
              rw [HF2.out] at HO4
              clear HF2
              go_wp2
              go_roundw
              case rel => exact ⟨i + 1, ⟨g4, 0, none⟩, c4, by omega, rfl, by go_num, own_lower HO4.out.1 HBW.out.size, HBW.out.trans (HO4.out.2.mono HBW.out.size)⟩
              case measure => simp [intOf]; omega
            · intro x L a w' kk op hLs ho hLi hLd hLn ⟨hS0, hS1, hS2, hS3, hS4, hS5, hS6⟩ hlow hdep hold
              have hkk : kk < 13 := (Array.getElem?_eq_some_iff.1 ho).1
              have l4 : a.tmps[4]?.getD undef = .int .i64 (i : Int) := by rw [← Array.getD_eq_getD_getElem?]; exact hlow 4 (by kernel_rfl)
              have l5 : a.tmps[5]?.getD undef = .int .i64 (k : Int) := by rw [← Array.getD_eq_getD_getElem?]; exact hlow 5 (by kernel_rfl)
              have D : ∀ j oj d, edgeB _ kk j = true → _ → _ → a.tmps[d]?.getD undef = _ := fun j oj d h1 h2 h3 => (Array.getD_eq_getD_getElem? ..).symm.trans (hdep j oj d h1 h2 h3)
              have K : ∀ {kk : Nat}, kk ≠ 0 → kk ≠ 4 → kk ≠ 6 → kk ≠ 7 → kk ≠ 11 → Below w1.heap.size w1 w' ∧ ((L.setIfInBounds kk true).getD 0 true = true → (L.setIfInBounds kk true).getD 4 true = false → w'.ownsRow w1.heap.size 3 1 (.slice (some ⟨x.1, 0, none⟩) 0 0) 0 []) ∧ ((L.setIfInBounds kk true).getD 4 true = true → (L.setIfInBounds kk true).getD 7 true = false → w'.ownsRow w1.heap.size 3 1 x.2.1 k (ic (out.take k))) ∧ ((L.setIfInBounds kk true).getD 6 true = true → (L.setIfInBounds kk true).getD 7 true = false → BlockIs w' x.2.2.1 3 #[.int .i64 (i : Int)]) ∧ ((L.setIfInBounds kk true).getD 7 true = true → (L.setIfInBounds kk true).getD 11 true = false → w'.ownsRow w1.heap.size 3 1 x.2.2.2.1 (k + 1) (ic (out.take k ++ [(i : Int)]))) ∧ ((L.setIfInBounds kk true).getD 11 true = true → (L.setIfInBounds kk true).getD 7 true = true ∧ w'.ownsRow w1.heap.size 3 1 x.2.2.2.2 (i + 1) (ic (out.take k ++ [(i : Int)] ++ out.drop k))) ∧ ((L.setIfInBounds kk true).getD 7 true = true → (L.setIfInBounds kk true).getD 4 true = true) := fun h0 h4 h6 h7 h11 => ⟨hS0, by rw [set_ne h0, set_ne h4]; exact hS1, by rw [set_ne h4, set_ne h7]; exact hS2, by rw [set_ne h6, set_ne h7]; exact hS3, by rw [set_ne h7, set_ne h11]; exact hS4, by rw [set_ne h11, set_ne h7]; exact hS5, by rw [set_ne h7, set_ne h4]; exact hS6⟩
              rcases (by omega : kk = 0 ∨ kk = 1 ∨ kk = 2 ∨ kk = 3 ∨ kk = 4 ∨ kk = 5 ∨ kk = 6 ∨ kk = 7 ∨ kk = 8 ∨ kk = 9 ∨ kk = 10 ∨ kk = 11 ∨ kk = 12) with rfl | rfl | rfl | rfl | rfl | rfl | rfl | rfl | rfl | rfl | rfl | rfl | rfl
              · obtain rfl := Option.some.inj ho
                refine ⟨rfl, .inl ⟨(w'.heap.size, x.2), w'.alloc (.cells #[] 3), fun j hj => ?_, by simp [execOp, Act.eval, go_sem], hS0.alloc hS0.size _, (fun _ _ => World.ownsRow_made w' #[] 0 hS0.size (by unfold maxLen; omega) rfl), (fun h => ?_), (fun h h' => ?_), (fun h => ?_), (fun h => ?_), fun h => ?_⟩⟩
                · have n0 : j ≠ 0 := fun e => by subst e; rw [hLi] at hj; cases hj
                  exact but_q0 j n0
                · rw [set_ne (by decide), hLn 4 (by kernel_rfl)] at h; cases h
                · rw [set_ne (by decide)] at h h'; exact (hS3 h h').below ((Below.refl _ _).alloc (Nat.le_refl _) _)
                · rw [set_ne (by decide)] at h; have h4 := hS6 h; rw [hLn 4 (by kernel_rfl)] at h4; cases h4
                · rw [set_ne (by decide)] at h; have h4 := hS6 (hS5 h).1; rw [hLn 4 (by kernel_rfl)] at h4; cases h4
                · rw [set_ne (by decide)] at h ⊢; exact hS6 h
              · obtain rfl := Option.some.inj ho
                have l3 : a.tmps[3]?.getD undef = .slice (some ad) i cc := (Array.getD_eq_getD_getElem? ..).symm.trans (hold 12 _ 3 (by kernel_rfl) rfl rfl)
                exact ⟨rfl, .inl ⟨x, w', fun _ _ => rfl, by simp [execOp, Act.eval, l3, go_sem], K (by decide) (by decide) (by decide) (by decide) (by decide)⟩⟩
              · obtain rfl := Option.some.inj ho
                exact ⟨rfl, .inl ⟨x, w', fun _ _ => rfl, by simp [execOp, Act.eval, l5, go_sem], K (by decide) (by decide) (by decide) (by decide) (by decide)⟩⟩
              · obtain rfl := Option.some.inj ho
                have e34 : a.tmps[34]?.getD undef = .slice (some ad) i cc := D 1 _ 34 (by kernel_rfl) rfl rfl
                have e35 : a.tmps[35]?.getD undef = .int .i64 (k : Int) := D 2 _ 35 (by kernel_rfl) rfl rfl
                have x1 : a.eval (.tmp 34) = .slice (some ad) i cc := by simp [Act.eval, e34]
                have x2 : a.eval (.tmp 35) = .int .i64 (k : Int) := by simp [Act.eval, e35]
                have hsl : (Instr.sliceAt 23 (a.eval (.tmp 34)) none ((some (Operand.tmp 35)).map a.eval) none).run Tryd.prog w' = .ok (.slice (some ad) k cc) w' := by
                  rw [x1, Option.map_some, x2]; exact slice_h ad _ cc k w' (by omega)
                exact ⟨rfl, .inl ⟨x, w', fun _ _ => rfl, exec_slice rfl hsl, K (by decide) (by decide) (by decide) (by decide) (by decide)⟩⟩
              · obtain rfl := Option.some.inj ho
                have e33 : a.tmps[33]?.getD undef = .slice (some ⟨x.1, 0, none⟩) 0 0 := D 0 _ 33 (by kernel_rfl) rfl rfl
                have e36 : a.tmps[36]?.getD undef = .slice (some ad) k cc := D 3 _ 36 (by kernel_rfl) rfl rfl
                have x1 : a.eval (.tmp 33) = .slice (some ⟨x.1, 0, none⟩) 0 0 := by simp [Act.eval, e33]
                have x2 : a.eval (.tmp 36) = .slice (some ad) k cc := by simp [Act.eval, e36]
                have hown := hS1 (hLd 0 (by kernel_rfl)) hLi
                obtain ⟨v', w'', hrun, hown', hgrow, hnil⟩ := run_append_own (P := Tryd.prog) w' w1.heap.size 23 23 3 i0 (.int .i64 0) 1 8 Tryd.underlying23 hi hz0 hz1 hz2 rfl (by decide) (.slice (some ⟨x.1, 0, none⟩) 0 0) 0 _ hown ad k cc (ic (out.take k)) (by rw [ic_len]; simp; omega) (head_srcS (HRW.out.below hS0)) ic_one (by unfold maxLen; omega) (by omega) hS0.size
                have hbz : Below w1.heap.size w1 w'' := hS0.grown hgrow hS0.size (fun b hb => (hown.lt b hb).1)
                refine ⟨rfl, .inl ⟨(x.1, v', x.2.2), w'', fun j hj => ?_, exec_append rfl x1 x2 hrun, hbz, (fun _ h => ?_), (fun _ _ => ?_), (fun h h' => ?_), (fun h => ?_), (fun h => ?_), fun _ => ?_⟩⟩
                · have n4 : j ≠ 4 := fun e => by subst e; rw [hLi] at hj; cases hj
                  exact but_q4 j n4
                · rw [set_eq (by rw [hLs]; decide)] at h; cases h
                · rw [List.nil_append, Nat.zero_add] at hown'; exact hown'
                · rw [set_ne (by decide)] at h h'
                  have hB := hS3 h h'
                  refine (hgrow.block _ hB.lt fun e => ?_).trans hB
                  have eg : x.1 = x.2.2.1 := (Option.some.inj e).symm
                  exact empty_neS hown (eg ▸ hB)
                · rw [set_ne (by decide), hLn 7 (by kernel_rfl)] at h; cases h
                · rw [set_ne (by decide)] at h; have h9 := (hS5 h).1; rw [hLn 7 (by kernel_rfl)] at h9; cases h9
                · rw [set_eq (by rw [hLs]; decide)]
              · obtain rfl := Option.some.inj ho
                exact ⟨rfl, .inl ⟨x, w', fun _ _ => rfl, by simp [execOp, Act.eval, l4, go_sem], K (by decide) (by decide) (by decide) (by decide) (by decide)⟩⟩
              · obtain rfl := Option.some.inj ho
                have e38 : a.tmps[38]?.getD undef = .int .i64 (i : Int) := D 5 _ 38 (by kernel_rfl) rfl rfl
                refine ⟨rfl, .inl ⟨(x.1, x.2.1, w'.heap.size, x.2.2.2), w'.alloc (.cells #[.int .i64 (i : Int)] 3), fun j hj => ?_, by simp [execOp, Act.eval, e38, go_sem], hS0.alloc hS0.size _, (fun h h' => ?_), (fun h h' => ?_), (fun _ _ => BlockIs.new _ _ _), (fun h => ?_), (fun h => ?_), fun h => ?_⟩⟩
                · have n6 : j ≠ 6 := fun e => by subst e; rw [hLi] at hj; cases hj
                  exact but_q6 j n6
                · rw [set_ne (by decide)] at h h'; exact (hS1 h h').alloc _
                · rw [set_ne (by decide)] at h h'; exact (hS2 h h').alloc _
                · rw [set_ne (by decide), hLn 7 (by kernel_rfl)] at h; cases h
                · rw [set_ne (by decide)] at h; have h9 := (hS5 h).1; rw [hLn 7 (by kernel_rfl)] at h9; cases h9
                · rw [set_ne (by decide)] at h ⊢; exact hS6 h
              · obtain rfl := Option.some.inj ho
                have e37 : a.tmps[37]?.getD undef = x.2.1 := D 4 _ 37 (by kernel_rfl) rfl rfl
                have e39 : a.tmps[39]?.getD undef = .slice (some ⟨x.2.2.1, 0, none⟩) 1 1 := D 6 _ 39 (by kernel_rfl) rfl rfl
                have x1 : a.eval (.tmp 37) = x.2.1 := by simp [Act.eval, e37]
                have x2 : a.eval (.tmp 39) = .slice (some ⟨x.2.2.1, 0, none⟩) 1 1 := by simp [Act.eval, e39]
                have hown := hS2 (hLd 4 (by kernel_rfl)) hLi
                have hB8 := hS3 (hLd 6 (by kernel_rfl)) hLi
                have hsrc : ∀ j u, (ic [(i : Int)])[j]? = some u → w'.cell? ((⟨x.2.2.1, 0, none⟩ : Addr).add j) = some u := fun j u hu => by rw [Addr.add_lit, Nat.zero_add, hB8.cell, ← Array.getElem?_toList]; exact hu
                obtain ⟨v', w'', hrun, hown', hgrow, hnil⟩ := run_append_own (P := Tryd.prog) w' w1.heap.size 23 23 3 i0 (.int .i64 0) 1 8 Tryd.underlying23 hi hz0 hz1 hz2 rfl (by decide) x.2.1 k _ hown ⟨x.2.2.1, 0, none⟩ 1 1 (ic [(i : Int)]) rfl hsrc ic_one (by unfold maxLen; omega) (by omega) hS0.size
                have hbz : Below w1.heap.size w1 w'' := hS0.grown hgrow hS0.size (fun b hb => (hown.lt b hb).1)
                refine ⟨rfl, .inl ⟨(x.1, x.2.1, x.2.2.1, v', x.2.2.2.2), w'', fun j hj => ?_, exec_append rfl x1 x2 hrun, hbz, (fun h h' => ?_), (fun _ h => ?_), (fun _ h => ?_), (fun _ _ => ?_), (fun h => ?_), fun _ => ?_⟩⟩
                · have n7 : j ≠ 7 := fun e => by subst e; rw [hLi] at hj; cases hj
                  exact but_q7 j n7
                · rw [set_ne (by decide)] at h'; have h9 := hLd 4 (by kernel_rfl); rw [h9] at h'; cases h'
                · rw [set_eq (by rw [hLs]; decide)] at h; cases h
                · rw [set_eq (by rw [hLs]; decide)] at h; cases h
                · have hx : ic (out.take k) ++ ic [(i : Int)] = ic (out.take k ++ [(i : Int)]) := by unfold ic; simp
                  rw [hx] at hown'; exact hown'
                · rw [set_ne (by decide), hLn 11 (by kernel_rfl)] at h; cases h
                · rw [set_ne (by decide)]; exact hLd 4 (by kernel_rfl)
              · obtain rfl := Option.some.inj ho
                have l3 : a.tmps[3]?.getD undef = .slice (some ad) i cc := (Array.getD_eq_getD_getElem? ..).symm.trans (hold 12 _ 3 (by kernel_rfl) rfl rfl)
                exact ⟨rfl, .inl ⟨x, w', fun _ _ => rfl, by simp [execOp, Act.eval, l3, go_sem], K (by decide) (by decide) (by decide) (by decide) (by decide)⟩⟩
              · obtain rfl := Option.some.inj ho
                exact ⟨rfl, .inl ⟨x, w', fun _ _ => rfl, by simp [execOp, Act.eval, l5, go_sem], K (by decide) (by decide) (by decide) (by decide) (by decide)⟩⟩
              · obtain rfl := Option.some.inj ho
                have e41 : a.tmps[41]?.getD undef = .slice (some ad) i cc := D 8 _ 41 (by kernel_rfl) rfl rfl
                have e42 : a.tmps[42]?.getD undef = .int .i64 (k : Int) := D 9 _ 42 (by kernel_rfl) rfl rfl
                have x1 : a.eval (.tmp 41) = .slice (some ad) i cc := by simp [Act.eval, e41]
                have x2 : a.eval (.tmp 42) = .int .i64 (k : Int) := by simp [Act.eval, e42]
                have hsl : (Instr.sliceAt 23 (a.eval (.tmp 41)) ((some (Operand.tmp 42)).map a.eval) none none).run Tryd.prog w' = .ok (.slice (some (tailAd ad k cc)) (i - k) (cc - k)) w' := by
                  rw [x1, Option.map_some, x2]; exact slice_l ad _ cc k w' (by omega)
                exact ⟨rfl, .inl ⟨x, w', fun _ _ => rfl, exec_slice rfl hsl, K (by decide) (by decide) (by decide) (by decide) (by decide)⟩⟩
              · obtain rfl := Option.some.inj ho
                have e40 : a.tmps[40]?.getD undef = x.2.2.2.1 := D 7 _ 40 (by kernel_rfl) rfl rfl
                have e43 : a.tmps[43]?.getD undef = .slice (some (tailAd ad k cc)) (i - k) (cc - k) := D 10 _ 43 (by kernel_rfl) rfl rfl
                have x1 : a.eval (.tmp 40) = x.2.2.2.1 := by simp [Act.eval, e40]
                have x2 : a.eval (.tmp 43) = .slice (some (tailAd ad k cc)) (i - k) (cc - k) := by simp [Act.eval, e43]
                have t9 : L.getD 7 true = true := hLd 7 (by kernel_rfl)
                have hown := hS4 t9 hLi
                obtain ⟨v', w'', hrun, hown', hgrow, hnil⟩ := run_append_own (P := Tryd.prog) w' w1.heap.size 23 23 3 i0 (.int .i64 0) 1 8 Tryd.underlying23 hi hz0 hz1 hz2 rfl (by decide) x.2.2.2.1 (k + 1) _ hown (tailAd ad k cc) (i - k) (cc - k) (ic (out.drop k)) (by rw [ic_len]; simp; omega) (tail_src (HRW.out.below hS0) (by omega)) ic_one (by unfold maxLen; omega) (by omega) hS0.size
                have hbz : Below w1.heap.size w1 w'' := hS0.grown hgrow hS0.size (fun b hb => (hown.lt b hb).1)
                refine ⟨rfl, .inl ⟨(x.1, x.2.1, x.2.2.1, x.2.2.2.1, v'), w'', fun j hj => ?_, exec_append rfl x1 x2 hrun, hbz, (fun h h' => ?_), (fun _ h => ?_), (fun _ h => ?_), (fun _ h => ?_), (fun _ => ?_), fun _ => ?_⟩⟩
                · have n11 : j ≠ 11 := fun e => by subst e; rw [hLi] at hj; cases hj
                  have f12 : L.getD 12 true = false := hLn 12 (by kernel_rfl)
                  have n12 : j ≠ 12 := fun e => by subst e; rw [f12] at hj; cases hj
                  exact but_q11 j n11 n12
                · rw [set_ne (by decide), hS6 t9] at h'; cases h'
                · rw [set_ne (by decide), t9] at h; cases h
                · rw [set_ne (by decide), t9] at h; cases h
                · rw [set_eq (by rw [hLs]; decide)] at h; cases h
                · have hx : ic (out.take k ++ [(i : Int)]) ++ ic (out.drop k) = ic (out.take k ++ [(i : Int)] ++ out.drop k) := by unfold ic; simp
                  rw [hx, show k + 1 + (i - k) = i + 1 by omega] at hown'; exact ⟨by rw [set_ne (by decide)]; exact t9, hown'⟩
                · rw [set_ne (by decide)]; exact hS6 t9
              · obtain rfl := Option.some.inj ho
                have e44 : a.tmps[44]?.getD undef = x.2.2.2.2 := D 11 _ 44 (by kernel_rfl) rfl rfl
                exact ⟨rfl, .inl ⟨x, w', fun _ _ => rfl, by simp [execOp, Act.eval, e44, go_sem], K (by decide) (by decide) (by decide) (by decide) (by decide)⟩⟩
        · have hki2 : i ≤ k := by omega
          have HF := Lib.hid (HINS.out.trans (insJ_at rk i out0 k (by omega) HG.out (fun h => by omega)))
          have dk : decide (k < i) = false := decide_eq_false hki
          have hk1 : decide ((k : Int) < i) = false := decide_eq_false (by omega)
          go_wp2
          go_quiet (fail)
          go_wp2
          generalize hw1 : wr.drewN nq = w1
          have HRW : Hid (Row w1 (some ad) (ic (natI out0))) := by rw [← hw1]; exact HRow.out.drewN _
          have hbw1 : Below wo.heap.size wo w1 := by rw [← hw1]; exact below_drewN HI.out _
          have HBW := Lib.hid (HW.out.trans (hbw1.mono HW.out.size))
          have hcc : i ≤ cc := (slice_some HO.out).2
          have HF2 : Hid (ic ((natI out0).take k ++ [(i : Int)] ++ (natI out0).drop k) = ic (natI (joTo rk (List.range en.length) (i + 1)))) := by show _ = _; rw [HF.out]; unfold natI; simp
          have hoL : (natI out0).length = out0.length := by unfold natI; simp
          generalize natI out0 = out at *
          have hol1 : out.length ≤ i := by omega
          have hol2 : i ≤ out.length := by omega
          clear hw1 hbw1 hoL HF HINS HG HI HWi HOi HRow
          refine wp_region_detG (by kernel_rfl) (fun x L w' => Below w1.heap.size w1 w' ∧ (L.getD 0 true = true → L.getD 4 true = false → w'.ownsRow w1.heap.size 3 1 (.slice (some ⟨x.1, 0, none⟩) 0 0) 0 []) ∧ (L.getD 4 true = true → L.getD 7 true = false → w'.ownsRow w1.heap.size 3 1 x.2.1 k (ic (out.take k))) ∧ (L.getD 6 true = true → L.getD 7 true = false → BlockIs w' x.2.2.1 3 #[.int .i64 (i : Int)]) ∧ (L.getD 7 true = true → L.getD 11 true = false → w'.ownsRow w1.heap.size 3 1 x.2.2.2.1 (k + 1) (ic (out.take k ++ [(i : Int)]))) ∧ (L.getD 11 true = true → L.getD 7 true = true ∧ w'.ownsRow w1.heap.size 3 1 x.2.2.2.2 (i + 1) (ic (out.take k ++ [(i : Int)] ++ out.drop k))) ∧ (L.getD 7 true = true → L.getD 4 true = true))
            (fun x kk => #[.slice (some ⟨x.1, 0, none⟩) 0 0, .slice (some ad) i cc, .int .i64 (k : Int), .slice (some ad) k cc, x.2.1, .int .i64 (i : Int), .slice (some ⟨x.2.2.1, 0, none⟩) 1 1, x.2.2.2.1, .slice (some ad) i cc, .int .i64 (k : Int), .slice (some (tailAd ad k cc)) (i - k) (cc - k), x.2.2.2.2, x.2.2.2.2].getD kk undef) (0, undef, 0, undef, undef) (by kernel_rfl) (by kernel_rfl) ⟨(Below.refl _ _).drew, (fun h => by cases h), (fun h => by cases h), (fun h => by cases h), (fun h => by cases h), (fun h => by cases h), fun h => by cases h⟩ ?_ ?_
          · intro x L tm w' hall hS hsz hlow hval
            have ht : tm = #[.slice (some ra) en.length cR, undef, .slice none 0 0, x.2.2.2.2, .int .i64 (i : Int), .int .i64 (k : Int), .slice (some ⟨w.heap.size, 0, none⟩) 0 0, .int .i64 (i : Int), .slice (some ra) en.length cR, .int .i64 (en.length : Int), .bool true, u11, u12, .int .i64 (k : Int), .slice (some ad) i cc, .int .i64 (i : Int), .bool false, .bool false, undef, undef, undef, undef, undef, undef, undef, undef, undef, undef, undef, undef, .bool false, u31, u32, .slice (some ⟨x.1, 0, none⟩) 0 0, .slice (some ad) i cc, .int .i64 (k : Int), .slice (some ad) k cc, x.2.1, .int .i64 (i : Int), .slice (some ⟨x.2.2.1, 0, none⟩) 1 1, x.2.2.2.1, .slice (some ad) i cc, .int .i64 (k : Int), .slice (some (tailAd ad k cc)) (i - k) (cc - k), x.2.2.2.2, undef] := by
              refine arr_of _ _ hsz fun t ht => ?_
              have ht' : t < 46 := ht
              rcases (by omega : t = 0 ∨ t = 1 ∨ t = 2 ∨ t = 3 ∨ t = 4 ∨ t = 5 ∨ t = 6 ∨ t = 7 ∨ t = 8 ∨ t = 9 ∨ t = 10 ∨ t = 11 ∨ t = 12 ∨ t = 13 ∨ t = 14 ∨ t = 15 ∨ t = 16 ∨ t = 17 ∨ t = 18 ∨ t = 19 ∨ t = 20 ∨ t = 21 ∨ t = 22 ∨ t = 23 ∨ t = 24 ∨ t = 25 ∨ t = 26 ∨ t = 27 ∨ t = 28 ∨ t = 29 ∨ t = 30 ∨ t = 31 ∨ t = 32 ∨ t = 33 ∨ t = 34 ∨ t = 35 ∨ t = 36 ∨ t = 37 ∨ t = 38 ∨ t = 39 ∨ t = 40 ∨ t = 41 ∨ t = 42 ∨ t = 43 ∨ t = 44 ∨ t = 45) with rfl | rfl | rfl | rfl | rfl | rfl | rfl | rfl | rfl | rfl | rfl | rfl | rfl | rfl | rfl | rfl | rfl | rfl | rfl | rfl | rfl | rfl | rfl | rfl | rfl | rfl | rfl | rfl | rfl | rfl | rfl | rfl | rfl | rfl | rfl | rfl | rfl | rfl | rfl | rfl | rfl | rfl | rfl | rfl | rfl | rfl
              · exact hlow 0 (by kernel_rfl)
              · exact hlow 1 (by kernel_rfl)
              · exact hlow 2 (by kernel_rfl)
              · exact hval 12 _ 3 rfl rfl
              · exact hlow 4 (by kernel_rfl)
              · exact hlow 5 (by kernel_rfl)
              · exact hlow 6 (by kernel_rfl)
              · exact hlow 7 (by kernel_rfl)
              · exact hlow 8 (by kernel_rfl)
              · exact hlow 9 (by kernel_rfl)
              · exact hlow 10 (by kernel_rfl)
              · exact hlow 11 (by kernel_rfl)
              · exact hlow 12 (by kernel_rfl)
              · exact hlow 13 (by kernel_rfl)
              · exact hlow 14 (by kernel_rfl)
              · exact hlow 15 (by kernel_rfl)
              · exact hlow 16 (by kernel_rfl)
              · exact hlow 17 (by kernel_rfl)
              · exact hlow 18 (by kernel_rfl)
              · exact hlow 19 (by kernel_rfl)
              · exact hlow 20 (by kernel_rfl)
              · exact hlow 21 (by kernel_rfl)
              · exact hlow 22 (by kernel_rfl)
              · exact hlow 23 (by kernel_rfl)
              · exact hlow 24 (by kernel_rfl)
              · exact hlow 25 (by kernel_rfl)
              · exact hlow 26 (by kernel_rfl)
              · exact hlow 27 (by kernel_rfl)
              · exact hlow 28 (by kernel_rfl)
              · exact hlow 29 (by kernel_rfl)
              · exact hlow 30 (by kernel_rfl)
              · exact hlow 31 (by kernel_rfl)
              · exact hlow 32 (by kernel_rfl)
              · exact hval 0 _ 33 rfl rfl
              · exact hval 1 _ 34 rfl rfl
              · exact hval 2 _ 35 rfl rfl
              · exact hval 3 _ 36 rfl rfl
              · exact hval 4 _ 37 rfl rfl
              · exact hval 5 _ 38 rfl rfl
              · exact hval 6 _ 39 rfl rfl
              · exact hval 7 _ 40 rfl rfl
              · exact hval 8 _ 41 rfl rfl
              · exact hval 9 _ 42 rfl rfl
              · exact hval 10 _ 43 rfl rfl
              · exact hval 11 _ 44 rfl rfl
              · exact hlow 45 (by kernel_rfl)
            subst ht
            clear hlow hval hsz
            obtain ⟨hbz, _, _, _, _, hS5, _⟩ := hS
            have hfin := (hS5 (hall 11 (by decide))).2
            have HO4 := Lib.hid (And.intro hfin hbz)
            clear hS5 hbz hall hfin
            obtain ⟨g4, _, ⟨c4, hx4⟩, _⟩ := own_block2S HO4.out.1 (by omega)
            generalize x.2.2.2.2 = y4 at *
            subst hx4
            rw [HF2.out] at HO4
            clear HF2
            go_wp2
            go_roundw
            case rel => exact ⟨i + 1, ⟨g4, 0, none⟩, c4, by omega, rfl, by go_num, own_lower HO4.out.1 HBW.out.size, HBW.out.trans (HO4.out.2.mono HBW.out.size)⟩
            case measure => simp [intOf]; omega
          · intro x L a w' kk op hLs ho hLi hLd hLn ⟨hS0, hS1, hS2, hS3, hS4, hS5, hS6⟩ hlow hdep hold
            have hkk : kk < 13 := (Array.getElem?_eq_some_iff.1 ho).1
            have l4 : a.tmps[4]?.getD undef = .int .i64 (i : Int) := by rw [← Array.getD_eq_getD_getElem?]; exact hlow 4 (by kernel_rfl)
            have l5 : a.tmps[5]?.getD undef = .int .i64 (k : Int) := by rw [← Array.getD_eq_getD_getElem?]; exact hlow 5 (by kernel_rfl)
            have D : ∀ j oj d, edgeB _ kk j = true → _ → _ → a.tmps[d]?.getD undef = _ := fun j oj d h1 h2 h3 => (Array.getD_eq_getD_getElem? ..).symm.trans (hdep j oj d h1 h2 h3)
            have K : ∀ {kk : Nat}, kk ≠ 0 → kk ≠ 4 → kk ≠ 6 → kk ≠ 7 → kk ≠ 11 → Below w1.heap.size w1 w' ∧ ((L.setIfInBounds kk true).getD 0 true = true → (L.setIfInBounds kk true).getD 4 true = false → w'.ownsRow w1.heap.size 3 1 (.slice (some ⟨x.1, 0, none⟩) 0 0) 0 []) ∧ ((L.setIfInBounds kk true).getD 4 true = true → (L.setIfInBounds kk true).getD 7 true = false → w'.ownsRow w1.heap.size 3 1 x.2.1 k (ic (out.take k))) ∧ ((L.setIfInBounds kk true).getD 6 true = true → (L.setIfInBounds kk true).getD 7 true = false → BlockIs w' x.2.2.1 3 #[.int .i64 (i : Int)]) ∧ ((L.setIfInBounds kk true).getD 7 true = true → (L.setIfInBounds kk true).getD 11 true = false → w'.ownsRow w1.heap.size 3 1 x.2.2.2.1 (k + 1) (ic (out.take k ++ [(i : Int)]))) ∧ ((L.setIfInBounds kk true).getD 11 true = true → (L.setIfInBounds kk true).getD 7 true = true ∧ w'.ownsRow w1.heap.size 3 1 x.2.2.2.2 (i + 1) (ic (out.take k ++ [(i : Int)] ++ out.drop k))) ∧ ((L.setIfInBounds kk true).getD 7 true = true → (L.setIfInBounds kk true).getD 4 true = true) := fun h0 h4 h6 h7 h11 => ⟨hS0, by rw [set_ne h0, set_ne h4]; exact hS1, by rw [set_ne h4, set_ne h7]; exact hS2, by rw [set_ne h6, set_ne h7]; exact hS3, by rw [set_ne h7, set_ne h11]; exact hS4, by rw [set_ne h11, set_ne h7]; exact hS5, by rw [set_ne h7, set_ne h4]; exact hS6⟩
            rcases (by omega : kk = 0 ∨ kk = 1 ∨ kk = 2 ∨ kk = 3 ∨ kk = 4 ∨ kk = 5 ∨ kk = 6 ∨ kk = 7 ∨ kk = 8 ∨ kk = 9 ∨ kk = 10 ∨ kk = 11 ∨ kk = 12) with rfl | rfl | rfl | rfl | rfl | rfl | rfl | rfl | rfl | rfl | rfl | rfl | rfl
            · obtain rfl := Option.some.inj ho
              refine ⟨rfl, .inl ⟨(w'.heap.size, x.2), w'.alloc (.cells #[] 3), fun j hj => ?_, by simp [execOp, Act.eval, go_sem], hS0.alloc hS0.size _, (fun _ _ => World.ownsRow_made w' #[] 0 hS0.size (by unfold maxLen; omega) rfl), (fun h => ?_), (fun h h' => ?_), (fun h => ?_), (fun h => ?_), fun h => ?_⟩⟩
              · have n0 : j ≠ 0 := fun e => by subst e; rw [hLi] at hj; cases hj
                exact but_q0 j n0
              · rw [set_ne (by decide), hLn 4 (by kernel_rfl)] at h; cases h
              · rw [set_ne (by decide)] at h h'; exact (hS3 h h').below ((Below.refl _ _).alloc (Nat.le_refl _) _)
              · rw [set_ne (by decide)] at h; have h4 := hS6 h; rw [hLn 4 (by kernel_rfl)] at h4; cases h4
              · rw [set_ne (by decide)] at h; have h4 := hS6 (hS5 h).1; rw [hLn 4 (by kernel_rfl)] at h4; cases h4
              · rw [set_ne (by decide)] at h ⊢; exact hS6 h
            · obtain rfl := Option.some.inj ho
              have l3 : a.tmps[3]?.getD undef = .slice (some ad) i cc := (Array.getD_eq_getD_getElem? ..).symm.trans (hold 12 _ 3 (by kernel_rfl) rfl rfl)
              exact ⟨rfl, .inl ⟨x, w', fun _ _ => rfl, by simp [execOp, Act.eval, l3, go_sem], K (by decide) (by decide) (by decide) (by decide) (by decide)⟩⟩
            · obtain rfl := Option.some.inj ho
              exact ⟨rfl, .inl ⟨x, w', fun _ _ => rfl, by simp [execOp, Act.eval, l5, go_sem], K (by decide) (by decide) (by decide) (by decide) (by decide)⟩⟩
            · obtain rfl := Option.some.inj ho
              have e34 : a.tmps[34]?.getD undef = .slice (some ad) i cc := D 1 _ 34 (by kernel_rfl) rfl rfl
              have e35 : a.tmps[35]?.getD undef = .int .i64 (k : Int) := D 2 _ 35 (by kernel_rfl) rfl rfl
              have x1 : a.eval (.tmp 34) = .slice (some ad) i cc := by simp [Act.eval, e34]
              have x2 : a.eval (.tmp 35) = .int .i64 (k : Int) := by simp [Act.eval, e35]
              have hsl : (Instr.sliceAt 23 (a.eval (.tmp 34)) none ((some (Operand.tmp 35)).map a.eval) none).run Tryd.prog w' = .ok (.slice (some ad) k cc) w' := by
                rw [x1, Option.map_some, x2]; exact slice_h ad _ cc k w' (by omega)
              exact ⟨rfl, .inl ⟨x, w', fun _ _ => rfl, exec_slice rfl hsl, K (by decide) (by decide) (by decide) (by decide) (by decide)⟩⟩
            · obtain rfl := Option.some.inj ho
              have e33 : a.tmps[33]?.getD undef = .slice (some ⟨x.1, 0, none⟩) 0 0 := D 0 _ 33 (by kernel_rfl) rfl rfl
              have e36 : a.tmps[36]?.getD undef = .slice (some ad) k cc := D 3 _ 36 (by kernel_rfl) rfl rfl
              have x1 : a.eval (.tmp 33) = .slice (some ⟨x.1, 0, none⟩) 0 0 := by simp [Act.eval, e33]
              have x2 : a.eval (.tmp 36) = .slice (some ad) k cc := by simp [Act.eval, e36]
              have hown := hS1 (hLd 0 (by kernel_rfl)) hLi
              obtain ⟨v', w'', hrun, hown', hgrow, hnil⟩ := run_append_own (P := Tryd.prog) w' w1.heap.size 23 23 3 i0 (.int .i64 0) 1 8 Tryd.underlying23 hi hz0 hz1 hz2 rfl (by decide) (.slice (some ⟨x.1, 0, none⟩) 0 0) 0 _ hown ad k cc (ic (out.take k)) (by rw [ic_len]; simp; omega) (head_srcS (HRW.out.below hS0)) ic_one (by unfold maxLen; omega) (by omega) hS0.size
              have hbz : Below w1.heap.size w1 w'' := hS0.grown hgrow hS0.size (fun b hb => (hown.lt b hb).1)
              refine ⟨rfl, .inl ⟨(x.1, v', x.2.2), w'', fun j hj => ?_, exec_append rfl x1 x2 hrun, hbz, (fun _ h => ?_), (fun _ _ => ?_), (fun h h' => ?_), (fun h => ?_), (fun h => ?_), fun _ => ?_⟩⟩
              · have n4 : j ≠ 4 := fun e => by subst e; rw [hLi] at hj; cases hj
                exact but_q4 j n4
              · rw [set_eq (by rw [hLs]; decide)] at h; cases h
              · rw [List.nil_append, Nat.zero_add] at hown'; exact hown'
              · rw [set_ne (by decide)] at h h'
                have hB := hS3 h h'
                refine (hgrow.block _ hB.lt fun e => ?_).trans hB
                have eg : x.1 = x.2.2.1 := (Option.some.inj e).symm
                exact empty_neS hown (eg ▸ hB)
              · rw [set_ne (by decide), hLn 7 (by kernel_rfl)] at h; cases h
              · rw [set_ne (by decide)] at h; have h9 := (hS5 h).1; rw [hLn 7 (by kernel_rfl)] at h9; cases h9
              · rw [set_eq (by rw [hLs]; decide)]
            · obtain rfl := Option.some.inj ho
              exact ⟨rfl, .inl ⟨x, w', fun _ _ => rfl, by simp [execOp, Act.eval, l4, go_sem], K (by decide) (by decide) (by decide) (by decide) (by decide)⟩⟩
            · obtain rfl := Option.some.inj ho
              have e38 : a.tmps[38]?.getD undef = .int .i64 (i : Int) := D 5 _ 38 (by kernel_rfl) rfl rfl
              refine ⟨rfl, .inl ⟨(x.1, x.2.1, w'.heap.size, x.2.2.2), w'.alloc (.cells #[.int .i64 (i : Int)] 3), fun j hj => ?_, by simp [execOp, Act.eval, e38, go_sem], hS0.alloc hS0.size _, (fun h h' => ?_), (fun h h' => ?_), (fun _ _ => BlockIs.new _ _ _), (fun h => ?_), (fun h => ?_), fun h => ?_⟩⟩
              · have n6 : j ≠ 6 := fun e => by subst e; rw [hLi] at hj; cases hj
                exact but_q6 j n6
              · rw [set_ne (by decide)] at h h'; exact (hS1 h h').alloc _
              · rw [set_ne (by decide)] at h h'; exact (hS2 h h').alloc _
              · rw [set_ne (by decide), hLn 7 (by kernel_rfl)] at h; cases h
              · rw [set_ne (by decide)] at h; have h9 := (hS5 h).1; rw [hLn 7 (by kernel_rfl)] at h9; cases h9
              · rw [set_ne (by decide)] at h ⊢; exact hS6 h
            · obtain rfl := Option.some.inj ho
              have e37 : a.tmps[37]?.getD undef = x.2.1 := D 4 _ 37 (by kernel_rfl) rfl rfl
              have e39 : a.tmps[39]?.getD undef = .slice (some ⟨x.2.2.1, 0, none⟩) 1 1 := D 6 _ 39 (by kernel_rfl) rfl rfl
              have x1 : a.eval (.tmp 37) = x.2.1 := by simp [Act.eval, e37]
              have x2 : a.eval (.tmp 39) = .slice (some ⟨x.2.2.1, 0, none⟩) 1 1 := by simp [Act.eval, e39]
              have hown := hS2 (hLd 4 (by kernel_rfl)) hLi
              have hB8 := hS3 (hLd 6 (by kernel_rfl)) hLi
              have hsrc : ∀ j u, (ic [(i : Int)])[j]? = some u → w'.cell? ((⟨x.2.2.1, 0, none⟩ : Addr).add j) = some u := fun j u hu => by rw [Addr.add_lit, Nat.zero_add, hB8.cell, ← Array.getElem?_toList]; exact hu
              obtain ⟨v', w'', hrun, hown', hgrow, hnil⟩ := run_append_own (P := Tryd.prog) w' w1.heap.size 23 23 3 i0 (.int .i64 0) 1 8 Tryd.underlying23 hi hz0 hz1 hz2 rfl (by decide) x.2.1 k _ hown ⟨x.2.2.1, 0, none⟩ 1 1 (ic [(i : Int)]) rfl hsrc ic_one (by unfold maxLen; omega) (by omega) hS0.size
              have hbz : Below w1.heap.size w1 w'' := hS0.grown hgrow hS0.size (fun b hb => (hown.lt b hb).1)
              refine ⟨rfl, .inl ⟨(x.1, x.2.1, x.2.2.1, v', x.2.2.2.2), w'', fun j hj => ?_, exec_append rfl x1 x2 hrun, hbz, (fun h h' => ?_), (fun _ h => ?_), (fun _ h => ?_), (fun _ _ => ?_), (fun h => ?_), fun _ => ?_⟩⟩
              · have n7 : j ≠ 7 := fun e => by subst e; rw [hLi] at hj; cases hj
                exact but_q7 j n7
              · rw [set_ne (by decide)] at h'; have h9 := hLd 4 (by kernel_rfl); rw [h9] at h'; cases h'
              · rw [set_eq (by rw [hLs]; decide)] at h; cases h
              · rw [set_eq (by rw [hLs]; decide)] at h; cases h
              · have hx : ic (out.take k) ++ ic [(i : Int)] = ic (out.take k ++ [(i : Int)]) := by unfold ic; simp
                rw [hx] at hown'; exact hown'
              · rw [set_ne (by decide), hLn 11 (by kernel_rfl)] at h; cases h
              · rw [set_ne (by decide)]; exact hLd 4 (by kernel_rfl)
            · obtain rfl := Option.some.inj ho
              have l3 : a.tmps[3]?.getD undef = .slice (some ad) i cc := (Array.getD_eq_getD_getElem? ..).symm.trans (hold 12 _ 3 (by kernel_rfl) rfl rfl)
              exact ⟨rfl, .inl ⟨x, w', fun _ _ => rfl, by simp [execOp, Act.eval, l3, go_sem], K (by decide) (by decide) (by decide) (by decide) (by decide)⟩⟩
            · obtain rfl := Option.some.inj ho
              exact ⟨rfl, .inl ⟨x, w', fun _ _ => rfl, by simp [execOp, Act.eval, l5, go_sem], K (by decide) (by decide) (by decide) (by decide) (by decide)⟩⟩
            · obtain rfl := Option.some.inj ho
              have e41 : a.tmps[41]?.getD undef = .slice (some ad) i cc := D 8 _ 41 (by kernel_rfl) rfl rfl
              have e42 : a.tmps[42]?.getD undef = .int .i64 (k : Int) := D 9 _ 42 (by kernel_rfl) rfl rfl
              have x1 : a.eval (.tmp 41) = .slice (some ad) i cc := by simp [Act.eval, e41]
              have x2 : a.eval (.tmp 42) = .int .i64 (k : Int) := by simp [Act.eval, e42]
              have hsl : (Instr.sliceAt 23 (a.eval (.tmp 41)) ((some (Operand.tmp 42)).map a.eval) none none).run Tryd.prog w' = .ok (.slice (some (tailAd ad k cc)) (i - k) (cc - k)) w' := by
                rw [x1, Option.map_some, x2]; exact slice_l ad _ cc k w' (by omega)
              exact ⟨rfl, .inl ⟨x, w', fun _ _ => rfl, exec_slice rfl hsl, K (by decide) (by decide) (by decide) (by decide) (by decide)⟩⟩
            · obtain rfl := Option.some.inj ho
              have e40 : a.tmps[40]?.getD undef = x.2.2.2.1 := D 7 _ 40 (by kernel_rfl) rfl rfl
              have e43 : a.tmps[43]?.getD undef = .slice (some (tailAd ad k cc)) (i - k) (cc - k) := D 10 _ 43 (by kernel_rfl) rfl rfl
              have x1 : a.eval (.tmp 40) = x.2.2.2.1 := by simp [Act.eval, e40]
              have x2 : a.eval (.tmp 43) = .slice (some (tailAd ad k cc)) (i - k) (cc - k) := by simp [Act.eval, e43]
              have t9 : L.getD 7 true = true := hLd 7 (by kernel_rfl)
              have hown := hS4 t9 hLi
              obtain ⟨v', w'', hrun, hown', hgrow, hnil⟩ := run_append_own (P := Tryd.prog) w' w1.heap.size 23 23 3 i0 (.int .i64 0) 1 8 Tryd.underlying23 hi hz0 hz1 hz2 rfl (by decide) x.2.2.2.1 (k + 1) _ hown (tailAd ad k cc) (i - k) (cc - k) (ic (out.drop k)) (by rw [ic_len]; simp; omega) (tail_src (HRW.out.below hS0) (by omega)) ic_one (by unfold maxLen; omega) (by omega) hS0.size
              have hbz : Below w1.heap.size w1 w'' := hS0.grown hgrow hS0.size (fun b hb => (hown.lt b hb).1)
              refine ⟨rfl, .inl ⟨(x.1, x.2.1, x.2.2.1, x.2.2.2.1, v'), w'', fun j hj => ?_, exec_append rfl x1 x2 hrun, hbz, (fun h h' => ?_), (fun _ h => ?_), (fun _ h => ?_), (fun _ h => ?_), (fun _ => ?_), fun _ => ?_⟩⟩
              · have n11 : j ≠ 11 := fun e => by subst e; rw [hLi] at hj; cases hj
                have f12 : L.getD 12 true = false := hLn 12 (by kernel_rfl)
                have n12 : j ≠ 12 := fun e => by subst e; rw [f12] at hj; cases hj
                exact but_q11 j n11 n12
              · rw [set_ne (by decide), hS6 t9] at h'; cases h'
              · rw [set_ne (by decide), t9] at h; cases h
              · rw [set_ne (by decide), t9] at h; cases h
              · rw [set_eq (by rw [hLs]; decide)] at h; cases h
              · have hx : ic (out.take k ++ [(i : Int)]) ++ ic (out.drop k) = ic (out.take k ++ [(i : Int)] ++ out.drop k) := by unfold ic; simp
                rw [hx, show k + 1 + (i - k) = i + 1 by omega] at hown'; exact ⟨by rw [set_ne (by decide)]; exact t9, hown'⟩
              · rw [set_ne (by decide)]; exact hS6 t9
            · obtain rfl := Option.some.inj ho
              have e44 : a.tmps[44]?.getD undef = x.2.2.2.2 := D 11 _ 44 (by kernel_rfl) rfl rfl
              exact ⟨rfl, .inl ⟨x, w', fun _ _ => rfl, by simp [execOp, Act.eval, e44, go_sem], K (by decide) (by decide) (by decide) (by decide) (by decide)⟩⟩
    · obtain rfl : i = en.length := by omega
      go_wp2
      go_ret
      have h := HO.out
      rw [show joTo rk (List.range en.length) en.length = joL rk (List.range en.length) by unfold joL; rw [List.length_range]] at h
      exact ⟨.slice (some ad) en.length cc, rfl, h, HW.out⟩
end
end Go.Proofs.YtpoibjmkbljblaaDoor

end
section
namespace Go.Proofs.YtpoibjmkbljblaaDoor
set_option linter.unusedSimpArgs false
set_option linter.unusedVariables false
open Go.RowKit
theorem ret_ownS {w w' : World} {r : List Int × Bool} {p : List Nat} {v : Value} {n : Nat} {b : Bool} (hr : r = (natI p, b)) (hn : p.length = n) (ho : w'.ownsRow w.heap.size 3 1 v n (ic (natI p))) (hb : Below w.heap.size w w') (e : Ending) (he : e = .returned (.tuple #[v, .bool b])) : RetIB w r e w' := by
  subst hr hn
  obtain ⟨A, c, rfl, hs⟩ := seg_out ho
  subst he
  refine ⟨A, c, by rw [List.length_map], ?_, hb⟩
  rw [List.length_map]
  exact hs
theorem shGo_pos {js : List J} {en : List Int} {p : List Nat} (hp : ∀ x ∈ p, x < 8) : ∀ (f k s : Nat), k + f ≤ p.length → shGo js en p f k = some s → 0 < (memB s).length
  | 0, _, _, _, h => by cases h
  | f + 1, k, s, hk, h => by
    rw [shGo] at h
    split at h
    · obtain rfl := Option.some.inj h
      have hk1 : k < p.length := by omega
      have hx := hp _ (List.getElem_mem hk1)
      have hs := setP_lt hp k (by omega)
      have hb : (setP p (k + 1)).testBit p[k] = true := by
        rw [setP_succ hk1, memB_add _ hs _ hx _ hx]; simp
      exact List.length_pos_of_mem ((memB_mem (setP_lt hp (k + 1) (by omega))).2 hb)
    · exact shGo_pos hp f (k + 1) s (by omega) h
def shLst (js : List J) (en : List Int) : List Nat := memB ((shL js en).getD 0)
theorem shLst_pos {js : List J} {en : List Int} (h8 : en.length ≤ 8) : (0 < (shLst js en).length) = ((shL js en).isSome = true) := by
  unfold shLst
  cases h : shL js en with
  | none => simp [memB_zero]
  | some s =>
    have hp := shGo_pos (js := js) (en := en) (p := eoL en) (fun x hx => by have := eoL_in en hx; omega) en.length 0 s (by rw [eoL_len]; omega) h
    simpa using hp
theorem shortR_eq (js : List J) (en : List Int) (h : (plainL js && vecB js.length en) = true) : shortR js en = (natI (shLst js en), (shL js en).isSome) := by
  unfold shortR shLst
  rw [h]
  cases hs : shL js en with
  | none => simp [memB_zero]
  | some s => rfl
theorem setP_take (p : List Nat) (n : Nat) : setP (p.take n) n = setP p n := by unfold setP; rw [List.take_take, Nat.min_self]
section
variable (B : Option Addr) (d : Nat) (p : List Nat) (w : World) (hq : Row w B (ic (natI p))) (hp : ∀ x ∈ p, x < 8) (hn : p.length ≤ 8)
include hq hp hn
set_option maxRecDepth 100000 in
set_option maxHeartbeats 2000000 in
theorem l6Ascending_any : Calls Tryd.prog 104 #[.slice B p.length d] w fun e w' => ∃ v, e = .returned v ∧ w'.ownsRow w.heap.size 3 1 v (memB (setP p p.length)).length (ic (natI (memB (setP p p.length)))) ∧ Below w.heap.size w w' := by
  have hb0 := (Below.refl w.heap.size w).alloc (Nat.le_refl _) (.cells #[] 3)
  have hown0 : (w.alloc (.cells #[] 3)).ownsRow w.heap.size 3 1 (.slice (some ⟨w.heap.size, 0, none⟩) 0 0) 0 [] := World.ownsRow_made w #[] 0 (Nat.le_refl _) (by unfold maxLen; omega) rfl
  have H0 := Lib.hid (And.intro hown0 hb0)
  have HTK := Lib.hid (fun k (hk : k ≤ p.length) => setP_lt hp k hk)
  have HTS := Lib.hid (fun k (hk : k < p.length) => setP_succ (p := p) hk)
  have HLX := Lib.hid (fun k (hk : k < p.length) => hp _ (List.getElem_mem hk))
  have HZ : Hid (setP p 0 = 0) := rfl
  have HQ := Lib.hid hq
  clear hq hown0 hb0 hp
  go_enter Tryd.func104, Tryd.ntmps104
  go_wp2
  go_loopw [3, 4] (fun v i wr => ∃ (k : Nat) (ad : Addr) (cc : Nat), k ≤ p.length ∧ v = .slice (some ad) (memB (setP p k)).length cc ∧ i = .int .i64 (k : Int) ∧ Hid (wr.ownsRow w.heap.size 3 1 (.slice (some ad) (memB (setP p k)).length cc) (memB (setP p k)).length (ic (natI (memB (setP p k))))) ∧ Hid (Below w.heap.size w wr)) (fun _ i _ => p.length - (intOf i).toNat)
  case atStart =>
    have hz : memB (setP p 0) = [] := by rw [HZ.out, memB_zero]
    refine ⟨0, ⟨w.heap.size, 0, none⟩, 0, Nat.zero_le _, ?_, rfl, ?_, H0.out.2⟩
    · rw [hz]; rfl
    · rw [hz]; exact H0.out.1
  case round =>
    obtain ⟨k, ad, cc, hk, rfl, rfl, HO, HW⟩ := hrel
    clear H0
    by_cases hlt : k < p.length
    · have hk0 : (0 : Int) ≤ k := by omega
      have hk1 : (k : Int) < p.length := by omega
      obtain ⟨bd, rfl, hcx⟩ := (HQ.out.below HW.out).nat hlt
      have hs := HTK.out k hk
      have HS := Lib.hid (HTS.out k hlt)
      have hx := HLX.out k hlt
      generalize setP p k = s at *
      generalize p[k] = x at *
      have hP := l1Put_any ad cc w.heap.size (memB s) x wr HO.out (memB_strict s) (by have := memB_len s; omega) HW.out.size
      rw [putN_memB s hs x hx] at hP
      have HP := Lib.hid hP
      clear hP hs HO
      generalize addB s x = sx at *
      go_wp2_with fail
      refine HP.out.mono ?_
      rintro e w1 ⟨ad1, c1, rfl, ho1, hb1⟩
      have HF := Lib.hid (And.intro ho1 (HW.out.trans (hb1.mono HW.out.size)))
      clear ho1 hb1 HP HW
      go_wp2
      go_roundw
      case rel => exact ⟨k + 1, ad1, c1, by omega, by rw [HS.out], by go_num, by rw [HS.out]; exact HF.out.1, HF.out.2⟩
      case measure => simp [intOf]; omega
    · obtain rfl : k = p.length := by omega
      go_wp2
      go_ret
      exact ⟨_, rfl, HO.out, HW.out⟩
end
section
variable (A C : Option Addr) (c b : Nat) (js : List J) (en : List Int) (w : World) (hr : Row w A (jc js)) (he : Row w C (ic en)) (hok : ∀ j ∈ js, okJ j = true) (h8 : js.length ≤ 8) (hv : vecB js.length en = true)
include hr he hok h8 hv
set_option maxRecDepth 100000 in
set_option maxHeartbeats 4000000 in
theorem l10Short_any : Calls Tryd.prog 58 #[.slice A js.length c, .slice C en.length b] w fun e w' => ∃ v, e = .returned v ∧ w'.ownsRow w.heap.size 3 1 v (shLst js en).length (ic (natI (shLst js en))) ∧ Below w.heap.size w w' := by
  have hel := (vec_out hv).1
  have hpl : (eoL en).length = en.length := eoL_len en
  have HSR : Hid (Calls Tryd.prog 65 #[.slice C en.length b] w fun e w' => ∃ v, e = .returned v ∧ w'.ownsRow w.heap.size 3 1 v (eoL en).length (ic (natI (eoL en))) ∧ Below w.heap.size w w') := by
    have h := l10Sorted_any C b en w he (by omega)
    rw [hpl]
    exact h
  have hin : ∀ x ∈ eoL en, x < js.length := fun x hx => by have := eoL_in en hx; omega
  have HSB := Lib.hid (fun k (hk : k ≤ (eoL en).length) => And.intro (setP_lt (fun x hx => Nat.lt_of_lt_of_le (hin x hx) h8) k hk) (fun i => setP_bit h8 hin (i := i) k hk))
  have HAS : Hid (∀ (B : Option Addr) (d k : Nat) (W : World), k ≤ (eoL en).length → Row W B (ic (natI (eoL en))) → Calls Tryd.prog 104 #[.slice B k d] W fun e w' => ∃ v, e = .returned v ∧ w'.ownsRow W.heap.size 3 1 v (memB (setP (eoL en) k)).length (ic (natI (memB (setP (eoL en) k)))) ∧ Below W.heap.size W w') := fun B d k W hk hq => by
    have htl : ((eoL en).take k).length = k := by rw [List.length_take]; omega
    have h := l6Ascending_any B d ((eoL en).take k) W (by have := row_take hq k; unfold natI at this ⊢; rwa [List.map_take]) (fun x hx => Nat.lt_of_lt_of_le (hin x (List.mem_of_mem_take hx)) h8) (by omega)
    rw [htl, setP_take] at h
    exact h
  have HSU := Lib.hid (fun s (hs : s < 256) (hlt : ∀ k, s.testBit k = true → k < js.length) (B : Option Addr) (d : Nat) W (h : Below w.heap.size w W) (hq : Row W B (ic (natI (memB s)))) => l10Supply_any A B C c d b js en (memB s) W (hr.below h) (he.below h) hq (fun x hx => hlt x ((memB_mem hs).1 hx)) (memB_len s) hok hv)
  have HDE := Lib.hid (fun s (hs : s < 256) (hlt : ∀ k, s.testBit k = true → k < js.length) (B : Option Addr) (d : Nat) W (h : Below w.heap.size w W) (hq : Row W B (ic (natI (memB s)))) => l10Demand_any A B c d js (memB s) W (hr.below h) hq (fun x hx => hlt x ((memB_mem hs).1 hx)) (memB_len s) hok)
  have HL : Hid (shLst js en = memB ((shGo js en (eoL en) (eoL en).length 0).getD 0)) := by show _ = _; unfold shLst shL; rw [hpl]
  have HGO : Hid (∀ f k, shGo js en (eoL en) (f + 1) k = if isShB js en (setP (eoL en) (k + 1)) then some (setP (eoL en) (k + 1)) else shGo js en (eoL en) f (k + 1)) := fun _ _ => rfl
  have HG0 : Hid (∀ k, shGo js en (eoL en) 0 k = none) := fun _ => rfl
  have HIS : Hid (∀ s, isShB js en s = decide (supL js en (memB s) < demL js (memB s))) := fun _ => rfl
  have hp8 : (eoL en).length ≤ 8 := by omega
  rw [HL.out]
  clear hr he hok hv hel hin hpl HL h8
  generalize eoL en = p at *
  go_enter Tryd.func58, Tryd.ntmps58
  go_wp2_with fail
  refine HSR.out.mono ?_
  rintro e w1 ⟨v, rfl, hown, hb1⟩
  obtain ⟨B, d, rfl, hcd, hrow⟩ := own_slice hown
  have H1 := Lib.hid (And.intro hb1 hrow)
  have HCD := Lib.hid hcd
  clear hown hb1 hrow HSR hcd
  go_wp2
  go_loopw [6] (fun iv wr => ∃ k : Nat, k ≤ p.length ∧ iv = .int .i64 ((k : Int) + 1) ∧ Hid (shGo js en p p.length 0 = shGo js en p (p.length - k) k) ∧ Hid (Below w.heap.size w wr ∧ Row wr B (ic (natI p)))) (fun iv _ => p.length + 1 - (intOf iv).toNat)
  case atStart => exact ⟨0, Nat.zero_le _, rfl, Lib.hid rfl, Lib.hid H1.out⟩
  case round =>
    obtain ⟨k, hk, rfl, HG, HI⟩ := hrel
    clear H1
    by_cases hlt : k < p.length
    · have hk0 : (0 : Int) ≤ (k : Int) + 1 := by omega
      have hk1 : (k : Int) + 1 ≤ p.length := by omega
      obtain ⟨ad, hA, _, _⟩ := HI.out.2 (by rw [ic_len, natI_len]; omega)
      subst hA
      have HSL := Lib.hid (slice_h ad p.length d (k + 1) wr (by have := HCD.out; omega))
      have HAC := Lib.hid (HAS.out (some ad) d (k + 1) wr (by omega) HI.out.2)
      obtain ⟨hs, hbt⟩ := HSB.out (k + 1) (by omega)
      have HSU2 := Lib.hid (HSU.out _ hs hbt)
      have HDE2 := Lib.hid (HDE.out _ hs hbt)
      have HIS2 := Lib.hid (HIS.out (setP p (k + 1)))
      obtain ⟨ff, hff⟩ : ∃ ff, p.length - k = ff + 1 := ⟨p.length - k - 1, by omega⟩
      have hGG := HG.out
      rw [hff, HGO.out] at hGG
      have hf2 : p.length - (k + 1) = ff := by omega
      have HGG := Lib.hid hGG
      have HF2 := Lib.hid hf2
      have hcd : k + 1 ≤ d := by have := HCD.out; omega
      have hcd2 : (k : Int) + 1 ≤ (d : Int) := by omega
      have hks : ((k + 1 : Nat) : Int) = (k : Int) + 1 := rfl
      rw [hks] at HSL
      clear hff hGG hf2 hs hbt HSU HDE HAS HSB HGO HIS hks
      generalize setP p (k + 1) = sx at *
      generalize isShB js en sx = sh at *
      generalize supL js en (memB sx) = sup at *
      generalize demL js (memB sx) = dem at *
      go_wp2_with fail
      refine HAC.out.mono ?_
      rintro e w2 ⟨v2, rfl, ho2, hb2⟩
      obtain ⟨X, cx, rfl, _, hr2⟩ := own_slice ho2
      have HB2 := Lib.hid (And.intro (HI.out.1.trans (hb2.mono HI.out.1.size)) (HI.out.2.below hb2))
      have HO2 := Lib.hid (own_lower ho2 HI.out.1.size)
      have HC2 := Lib.hid (HSU2.out X cx w2 HB2.out.1 hr2)
      have HR2 := Lib.hid hr2
      clear ho2 hb2 hr2 HAC HSU2 HSL HI
      go_wp2_with fail
      refine HC2.out.mono ?_
      rintro e w3 ⟨rfl, hb3⟩
      have HB3 := Lib.hid (And.intro (HB2.out.1.trans (hb3.mono HB2.out.1.size)) (HB2.out.2.below hb3))
      have HO3 := Lib.hid (own_blw HO2.out hb3)
      have HC3 := Lib.hid (HDE2.out X cx w3 HB3.out.1 (HR2.out.below hb3))
      clear hb3 HC2 HDE2 HB2 HO2 HR2
      go_wp2_with fail
      refine HC3.out.mono ?_
      rintro e w4 ⟨rfl, hb4⟩
      have HB4 := Lib.hid (And.intro (HB3.out.1.trans (hb4.mono HB3.out.1.size)) (HB3.out.2.below hb4))
      have HO4 := Lib.hid (own_blw HO3.out hb4)
      clear hb4 HC3 HB3 HO3
      by_cases hlt2 : sup < dem
      · have HSH := Lib.hid (HIS2.out.trans (decide_eq_true hlt2))
        have hd2 : decide (sup < dem) = true := decide_eq_true hlt2
        rw [HSH.out] at HGG
        have HGT : Hid (shGo js en p p.length 0 = some sx) := HGG.out
        clear HGG HSH HIS2
        go_wp2
        go_ret
        exact ⟨_, rfl, by rw [HGT.out]; exact HO4.out, HB4.out.1⟩
      · have HSH := Lib.hid (HIS2.out.trans (decide_eq_false hlt2))
        have hd2 : decide (sup < dem) = false := decide_eq_false hlt2
        rw [HSH.out] at HGG
        have HGT : Hid (shGo js en p p.length 0 = shGo js en p ff (k + 1)) := HGG.out
        clear HGG HSH HIS2
        go_wp2
        go_roundw
        case rel => exact ⟨k + 1, by omega, by go_num, Lib.hid (by rw [HGT.out, HF2.out]), HB4⟩
        case measure => simp [intOf]; omega
    · obtain rfl : k = p.length := by omega
      have HN := HG.out
      rw [Nat.sub_self, HG0.out] at HN
      have HNN := Lib.hid HN
      have hw0 := HI.out.1.size
      have hown0 : (wr.alloc (.cells #[] 3)).ownsRow w.heap.size 3 1 (.slice (some ⟨wr.heap.size, 0, none⟩) 0 0) 0 [] := World.ownsRow_made wr #[] 0 hw0 (by unfold maxLen; omega) rfl
      have HX := Lib.hid (And.intro hown0 (HI.out.1.alloc hw0 (.cells #[] 3)))
      have hkl : ¬ ((p.length : Int) + 1 ≤ (p.length : Int)) := by omega
      clear HN HG hown0 hw0
      go_wp2
      go_ret
      exact ⟨_, rfl, by rw [HNN.out]; exact HX.out.1, HX.out.2⟩
end
end Go.Proofs.YtpoibjmkbljblaaDoor

end
section
namespace Go.Proofs.YtpoibjmkbljblaaDoor
set_option linter.unusedSimpArgs false
set_option linter.unusedVariables false
set_option linter.unusedSectionVars false
open Go.RowKit
theorem shortR_no (js : List J) (en : List Int) (h : (plainL js && vecB js.length en) = false) : shortR js en = ([], false) := by unfold shortR; rw [h]; rfl
theorem row_blkS {w : World} {g : Nat} {t : TypeId} {cs : Array Value} (h : BlockIs w g t cs) : Row w (some ⟨g, 0, none⟩) cs.toList := fun _ =>
  ⟨_, rfl, h.lt, fun j u hu => by rw [Addr.add_lit, Nat.zero_add, h.cell, ← Array.getElem?_toList]; exact hu⟩

theorem l1Same_any (B C : Option Addr) (d b : Nat) (xs ys : List Int) (w : World) (hq : Row w B (ic xs)) (he : Row w C (ic ys)) (hx : xs.length ≤ 10000000) (hy : ys.length ≤ 10000000) :
    Calls Tryd.prog 63 #[.slice B xs.length d, .slice C ys.length b] w fun e w' => e = .returned (.bool (decide (xs = ys))) ∧ ∃ m, w' = w.drewN m := by
  by_cases hl : xs.length = ys.length
  · have hln : ((xs.length : Int) != (ys.length : Int)) = false := by rw [hl]; simp
    have HL := Lib.hid hl
    clear hl
    go_enter Tryd.func63, Tryd.ntmps63
    go_wp2
    go_loopw [5] (fun iv wr => ∃ k m : Nat, k ≤ xs.length ∧ iv = .int .i64 (k : Int) ∧ Hid (∀ i (h : i < xs.length) (h2 : i < ys.length), i < k → xs[i] = ys[i]) ∧ wr = w.drewN m) (fun iv _ => xs.length - (intOf iv).toNat)
    case atStart => exact ⟨0, 0, Nat.zero_le _, rfl, fun _ _ _ h => absurd h (by omega), rfl⟩
    case round =>
      obtain ⟨k, m, hk, rfl, HA, rfl⟩ := hrel
      by_cases hlt : k < xs.length
      · have hk0 : (0 : Int) ≤ k := by omega
        have hk1 : (k : Int) < xs.length := by omega
        have hlt2 : k < ys.length := by have := HL.out; omega
        have hk2 : (k : Int) < ys.length := by omega
        obtain ⟨bd, rfl, hcx⟩ := hq.int hlt
        obtain ⟨cd, rfl, hcy⟩ := he.int hlt2
        have HS : Hid (xs[k] = ys[k] → ∀ i (h : i < xs.length) (h2 : i < ys.length), i < k + 1 → xs[i] = ys[i]) := fun h0 i h h2 hi => by
          by_cases e : i = k
          · subst e; exact h0
          · exact HA.out i h h2 (by omega)
        have HN : Hid (xs[k] ≠ ys[k] → decide (xs = ys) = false) := fun h0 => decide_eq_false fun e => h0 (by subst e; rfl)
        generalize xs[k] = x at *
        generalize ys[k] = y at *
        by_cases hxy : x = y
        · have hne : (x != y) = false := by rw [hxy]; simp
          have HS2 := Lib.hid (HS.out hxy)
          clear HS HN hxy
          go_wp2
          go_quiet (fail)
          go_wp2
          go_roundw
          case rel => exact ⟨k + 1, _, by omega, by go_num, HS2.out, by first | rfl | exact World.drewN_drewN _ _ _⟩
          case measure => simp [intOf]; omega
        · have hne : (x != y) = true := by simpa using hxy
          have HN2 := Lib.hid (HN.out hxy)
          clear HS HN hxy
          go_wp2
          go_quiet (fail)
          go_wp2
          go_ret
          exact ⟨by rw [HN2.out]; rfl, _, by first | rfl | exact World.drewN_drewN _ _ _⟩
      · obtain rfl : k = xs.length := by omega
        have HF : Hid (decide (xs = ys) = true) := decide_eq_true (List.ext_getElem HL.out fun i h h2 => HA.out i h h2 h)
        go_wp2
        go_ret
        exact ⟨by rw [HF.out]; rfl, m, rfl⟩
  · have hln : ((xs.length : Int) != (ys.length : Int)) = true := by simp; omega
    have HF : Hid (decide (xs = ys) = false) := decide_eq_false fun e => hl (by rw [e])
    clear hl
    go_enter Tryd.func63, Tryd.ntmps63
    go_wp2
    go_ret
    exact ⟨by rw [HF.out]; rfl, 0, rfl⟩
section
variable (A C : Option Addr) (c b : Nat) (js : List J) (en : List Int) (w : World) (hr : Row w A (jc js)) (he : Row w C (ic en)) (hn : js.length ≤ 10000000) (hel : en.length ≤ 10000000)
include hr he hn hel
set_option maxRecDepth 100000 in
theorem spec_ShortSet : Calls Tryd.prog 22 #[.slice A js.length c, .slice C en.length b] w (RetIB w (shortR js en)) := by
  cases hp : plainL js
  · have HR := Lib.hid (shortR_no js en (by rw [hp]; rfl))
    go_enter Tryd.func22, Tryd.ntmps22
    go_wp2_with fail
    refine (l6Good_any A c js _ hr (by omega)).mono ?_
    rintro e1 w1 ⟨rfl, hb1⟩
    rw [hp]
    go_wp2
    go_ret2
    exact ret_empty HR.out hb1 _ rfl
  · cases hv : vecB js.length en
    · have HR := Lib.hid (shortR_no js en (by rw [hp, hv]; rfl))
      go_enter Tryd.func22, Tryd.ntmps22
      go_wp2_with fail
      refine (l6Good_any A c js _ hr (by omega)).mono ?_
      rintro e1 w1 ⟨rfl, hb1⟩
      rw [hp]
      go_wp2_with fail
      refine (l10Vector_any A C c b js en w1 (he.below hb1) (by omega) (by omega)).mono ?_
      rintro e1 w2 ⟨rfl, hb2⟩
      rw [hv]
      have HB := Lib.hid (hb1.trans (hb2.mono hb1.size))
      clear hb1 hb2
      go_wp2
      go_ret2
      exact ret_empty HR.out HB.out _ rfl
    · have HR := Lib.hid (shortR_eq js en (by rw [hp, hv]; rfl))
      obtain ⟨h8, hok⟩ := good_out (plain_good hp)
      have HQ := Lib.hid (fun W (hb : Below w.heap.size w W) => l10Short_any A C c b js en W (hr.below hb) (he.below hb) hok h8 hv)
      have HPS := Lib.hid (shLst_pos (js := js) (en := en) (by have := (vec_out hv).1; omega))
      clear hok
      go_enter Tryd.func22, Tryd.ntmps22
      go_wp2_with fail
      refine (l6Good_any A c js _ hr (by omega)).mono ?_
      rintro e1 w1 ⟨rfl, hb1⟩
      rw [hp]
      go_wp2_with fail
      refine (l10Vector_any A C c b js en w1 (he.below hb1) (by omega) (by omega)).mono ?_
      rintro e1 w2 ⟨rfl, hb2⟩
      rw [hv]
      have HB := Lib.hid (hb1.trans (hb2.mono hb1.size))
      have HC := Lib.hid (HQ.out _ HB.out)
      clear hb1 hb2 HQ
      go_wp2_with fail
      refine HC.out.mono ?_
      rintro e1 w3 ⟨v, rfl, hown, hb3⟩
      obtain ⟨X, cx, rfl, _, _⟩ := own_slice hown
      have HX := Lib.hid (And.intro (own_lower hown HB.out.size) (HB.out.trans (hb3.mono HB.out.size)))
      clear hown hb3 HC
      cases hi : (shL js en).isSome
      · have hz : (shLst js en).length = 0 := by
          have h1 := HPS.out
          rw [hi] at h1
          have : ¬ 0 < (shLst js en).length := by rw [h1]; decide
          omega
        have hd : decide (0 < (shLst js en).length) = false := decide_eq_false (by omega)
        rw [hi] at HR
        have HZ := Lib.hid hz
        clear hz hi HPS
        obtain ⟨q, hq⟩ : ∃ q, (shLst js en).length = q := ⟨_, rfl⟩
        rw [hq] at hd HX ⊢
        have HQ := Lib.hid hq
        clear hq
        go_wp2
        go_ret2
        exact ret_ownS HR.out HQ.out HX.out.1 HX.out.2 _ (by first | rfl | (rw [hd]; rfl))
      · have hz : 0 < (shLst js en).length := by rw [HPS.out]; exact hi
        have hd : decide (0 < (shLst js en).length) = true := decide_eq_true (by omega)
        rw [hi] at HR
        clear hi HPS
        obtain ⟨q, hq⟩ : ∃ q, (shLst js en).length = q := ⟨_, rfl⟩
        rw [hq] at hd HX hz ⊢
        have HQ := Lib.hid hq
        clear hq
        go_wp2
        go_ret2
        exact ret_ownS HR.out HQ.out HX.out.1 HX.out.2 _ (by first | rfl | (rw [hd]; rfl))
set_option maxRecDepth 100000 in
theorem spec_IsOrderVector : Calls Tryd.prog 29 #[.slice A js.length c, .slice C en.length b] w (RetBB w (ovR js en)) := by
  have HR : Hid (ovR js en = if plainL js && vecB js.length en then (decide (endsL js (eoL en) = en), true) else (false, false)) := rfl
  cases hp : plainL js
  · rw [hp] at HR
    go_enter Tryd.func29, Tryd.ntmps29
    go_wp2_with fail
    refine (l6Good_any A c js _ hr (by omega)).mono ?_
    rintro e1 w1 ⟨rfl, hb1⟩
    rw [hp]
    go_wp2
    go_ret2
    exact ⟨by rw [HR.out]; rfl, hb1⟩
  · rw [hp] at HR
    cases hv : vecB js.length en
    · rw [hv] at HR
      go_enter Tryd.func29, Tryd.ntmps29
      go_wp2_with fail
      refine (l6Good_any A c js _ hr (by omega)).mono ?_
      rintro e1 w1 ⟨rfl, hb1⟩
      rw [hp]
      go_wp2_with fail
      refine (l10Vector_any A C c b js en w1 (he.below hb1) (by omega) (by omega)).mono ?_
      rintro e1 w2 ⟨rfl, hb2⟩
      rw [hv]
      have HB := Lib.hid (hb1.trans (hb2.mono hb1.size))
      clear hb1 hb2
      go_wp2
      go_ret2
      exact ⟨by rw [HR.out]; rfl, HB.out⟩
    · rw [hv] at HR
      have hg := plain_good hp
      obtain ⟨h8, _⟩ := good_out hg
      have hl := (vec_out hv).1
      have hpm : (eoL en).Perm (List.range js.length) := by have := eoL_perm en; rwa [hl] at this
      have HQ := Lib.hid (fun W (hb : Below w.heap.size w W) => l10Sorted_any C b en W (he.below hb) (by omega))
      have HEN : Hid (∀ (B : Option Addr) (d : Nat) W, Below w.heap.size w W → Row W B (ic (natI (eoL en))) → Calls Tryd.prog 64 #[.slice A js.length c, .slice B en.length d] W fun e w' => ∃ g, e = .returned (.slice (some ⟨g, 0, none⟩) js.length js.length) ∧ BlockIs w' g 3 (ic (endsL js (eoL en))).toArray ∧ Below W.heap.size W w') := fun B d W hb hq => by
        have h := l2Ends_any A B c d js (eoL en) W (hr.below hb) hq hg hpm
        rw [eoL_len] at h
        exact h.mono fun _ _ ⟨g, h1, _, h3, h4⟩ => ⟨g, h1, h3, h4⟩
      have hEL := endsL_len js (eoL en)
      have HSM := Lib.hid (fun (g : Nat) W (hb : Below w.heap.size w W) (hB : BlockIs W g 3 (ic (endsL js (eoL en))).toArray) => by
        have h := l1Same_any (some ⟨g, 0, none⟩) C js.length b (endsL js (eoL en)) en W (row_blkS hB) (he.below hb) (by omega) hel
        rw [hEL] at h
        exact h)
      clear hpm hg hl hEL
      go_enter Tryd.func29, Tryd.ntmps29
      go_wp2_with fail
      refine (l6Good_any A c js _ hr (by omega)).mono ?_
      rintro e1 w1 ⟨rfl, hb1⟩
      rw [hp]
      go_wp2_with fail
      refine (l10Vector_any A C c b js en w1 (he.below hb1) (by omega) (by omega)).mono ?_
      rintro e1 w2 ⟨rfl, hb2⟩
      rw [hv]
      have HB := Lib.hid (hb1.trans (hb2.mono hb1.size))
      have HC := Lib.hid (HQ.out _ HB.out)
      clear hb1 hb2 HQ
      go_wp2_with fail
      refine HC.out.mono ?_
      rintro e1 w3 ⟨v, rfl, hown, hb3⟩
      obtain ⟨X, cx, rfl, _, hrow⟩ := own_slice hown
      have HB3 := Lib.hid (HB.out.trans (hb3.mono HB.out.size))
      have HC2 := Lib.hid (HEN.out X cx w3 HB3.out hrow)
      clear hown hb3 HC hrow HEN
      go_wp2_with fail
      refine HC2.out.mono ?_
      rintro e1 w4 ⟨g, rfl, hB4, hb4⟩
      have HB4 := Lib.hid (HB3.out.trans (hb4.mono HB3.out.size))
      have HC3 := Lib.hid (HSM.out g w4 HB4.out hB4)
      clear hB4 hb4 HC2 HSM
      go_wp2_with fail
      refine HC3.out.mono ?_
      rintro e1 _ ⟨rfl, m, rfl⟩
      go_wp2
      go_ret2
      exact ⟨by rw [HR.out]; rfl, below_drewN HB4.out _⟩
end
end Go.Proofs.YtpoibjmkbljblaaDoor

end
section
namespace Go.Proofs.YtpoibjmkbljblaaDoor
set_option linter.unusedSimpArgs false
set_option linter.unusedVariables false
set_option linter.unusedSectionVars false
open Go.RowKit
theorem shortR_len (js : List J) (en : List Int) : (shortR js en).1.length ≤ 8 := by
  unfold shortR
  split
  · split
    · show (natI _).length ≤ 8
      rw [natI_len]; exact memB_len _
    · exact Nat.zero_le _
  · exact Nat.zero_le _
section
variable (A C : Option Addr) (c b : Nat) (js : List J) (en : List Int) (w : World) (hr : Row w A (jc js)) (he : Row w C (ic en)) (hn : js.length ≤ 10000000) (hel : en.length ≤ 10000000)
include hr he hn hel
set_option maxRecDepth 100000 in
set_option maxHeartbeats 2000000 in
theorem spec_IsBalanced : Calls Tryd.prog 27 #[.slice A js.length c, .slice C en.length b] w (RetBB w (balR js en)) := by
  have HR : Hid (balR js en = if plainL js && vecB js.length en then ((shL js en).isNone && decide (supL js en (List.range js.length) = demL js (List.range js.length)), true) else (false, false)) := rfl
  cases hp : plainL js
  · rw [hp] at HR
    go_enter Tryd.func27, Tryd.ntmps27
    go_wp2_with fail
    refine (l6Good_any A c js _ hr (by omega)).mono ?_
    rintro e1 w1 ⟨rfl, hb1⟩
    rw [hp]
    go_wp2
    go_ret2
    exact ⟨by rw [HR.out]; rfl, hb1⟩
  · rw [hp] at HR
    cases hv : vecB js.length en
    · rw [hv] at HR
      go_enter Tryd.func27, Tryd.ntmps27
      go_wp2_with fail
      refine (l6Good_any A c js _ hr (by omega)).mono ?_
      rintro e1 w1 ⟨rfl, hb1⟩
      rw [hp]
      go_wp2_with fail
      refine (l10Vector_any A C c b js en w1 (he.below hb1) (by omega) (by omega)).mono ?_
      rintro e1 w2 ⟨rfl, hb2⟩
      rw [hv]
      have HB := Lib.hid (hb1.trans (hb2.mono hb1.size))
      clear hb1 hb2
      go_wp2
      go_ret2
      exact ⟨by rw [HR.out]; rfl, HB.out⟩
    · rw [hv] at HR
      obtain ⟨h8, hok⟩ := good_out (plain_good hp)
      have HQ := Lib.hid (fun W (hb : Below w.heap.size w W) => l10Short_any A C c b js en W (hr.below hb) (he.below hb) hok h8 hv)
      have HPS := Lib.hid (shLst_pos (js := js) (en := en) (by have := (vec_out hv).1; omega))
      have HAL := Lib.hid (l6All_any A js.length c h8)
      have hrl : (List.range js.length).length = js.length := List.length_range
      have HSU : Hid (∀ (B : Option Addr) (d : Nat) W, Below w.heap.size w W → Row W B (ic (natI (List.range js.length))) → Calls Tryd.prog 53 #[.slice A js.length c, .slice C en.length b, .slice B js.length d] W fun e w' => e = .returned (.int .i64 (supL js en (List.range js.length))) ∧ Below W.heap.size W w') := fun B d W hb hq => by
        have h := l10Supply_any A B C c d b js en (List.range js.length) W (hr.below hb) (he.below hb) hq (fun x hx => List.mem_range.1 hx) (by rw [hrl]; exact h8) hok hv
        rw [hrl] at h
        exact h
      have HDE : Hid (∀ (B : Option Addr) (d : Nat) W, Below w.heap.size w W → Row W B (ic (natI (List.range js.length))) → Calls Tryd.prog 47 #[.slice A js.length c, .slice B js.length d] W fun e w' => e = .returned (.int .i64 (demL js (List.range js.length))) ∧ Below W.heap.size W w') := fun B d W hb hq => by
        have h := l10Demand_any A B c d js (List.range js.length) W (hr.below hb) hq (fun x hx => List.mem_range.1 hx) (by rw [hrl]; exact h8) hok
        rw [hrl] at h
        exact h
      have HBD : Hid (decide (supL js en (List.range js.length) = demL js (List.range js.length)) = (supL js en (List.range js.length) == demL js (List.range js.length))) := by show _ = _; by_cases h : supL js en (List.range js.length) = demL js (List.range js.length) <;> simp [h]
      rw [HBD.out] at HR
      clear hok hrl HBD
      generalize supL js en (List.range js.length) = sup at *
      generalize demL js (List.range js.length) = dem at *
      generalize List.range js.length = rg at *
      go_enter Tryd.func27, Tryd.ntmps27
      go_wp2_with fail
      refine (l6Good_any A c js _ hr (by omega)).mono ?_
      rintro e1 w1 ⟨rfl, hb1⟩
      rw [hp]
      go_wp2_with fail
      refine (l10Vector_any A C c b js en w1 (he.below hb1) (by omega) (by omega)).mono ?_
      rintro e1 w2 ⟨rfl, hb2⟩
      rw [hv]
      have HB := Lib.hid (hb1.trans (hb2.mono hb1.size))
      clear hb1 hb2
      go_wp2_with fail
      refine (HAL.out _).mono ?_
      rintro e1 w3 ⟨v, rfl, hown, hb3⟩
      obtain ⟨X, cx, rfl, _, hrow⟩ := own_slice hown
      have hb3b := HB.out.trans (hb3.mono HB.out.size)
      have HC := Lib.hid (HQ.out _ hb3b)
      have HB3 := Lib.hid (And.intro hb3b hrow)
      clear hown hb3 hb3b hrow HB HAL HQ
      go_wp2_with fail
      refine HC.out.mono ?_
      rintro e1 w4 ⟨v, rfl, hown, hb4⟩
      obtain ⟨Y, cy, rfl, _, _⟩ := own_slice hown
      have HB4 := Lib.hid (And.intro (HB3.out.1.trans (hb4.mono HB3.out.1.size)) (HB3.out.2.below hb4))
      clear hown hb4 HC HB3
      obtain ⟨q, hq⟩ : ∃ q, (shLst js en).length = q := ⟨_, rfl⟩
      rw [hq] at HPS ⊢
      clear hq
      cases hi : shL js en with
      | some s =>
        have hz : 0 < q := by rw [HPS.out, hi]; rfl
        have hd : ((q : Int) == 0) = false := by simp; omega
        rw [hi] at HR
        clear hi HPS hz HSU HDE
        go_wp2
        go_ret2
        exact ⟨by rw [HR.out]; rfl, HB4.out.1⟩
      | none =>
        have hz : q = 0 := by
          have h1 := HPS.out
          rw [hi] at h1
          have : ¬ 0 < q := by rw [h1]; decide
          omega
        subst hz
        rw [hi] at HR
        clear hi HPS
        have HC1 := Lib.hid (HSU.out X cx w4 HB4.out.1 HB4.out.2)
        clear HSU
        go_wp2_with fail
        refine HC1.out.mono ?_
        rintro e1 w5 ⟨rfl, hb5⟩
        have HB5 := Lib.hid (And.intro (HB4.out.1.trans (hb5.mono HB4.out.1.size)) (HB4.out.2.below hb5))
        have HC2 := Lib.hid (HDE.out X cx w5 HB5.out.1 HB5.out.2)
        clear hb5 HC1 HB4 HDE
        go_wp2_with fail
        refine HC2.out.mono ?_
        rintro e1 w6 ⟨rfl, hb6⟩
        have HB6 := Lib.hid (HB5.out.1.trans (hb6.mono HB5.out.1.size))
        clear hb6 HC2 HB5
        go_wp2
        go_ret2
        exact ⟨by rw [HR.out]; rfl, HB6.out⟩
end
end Go.Proofs.YtpoibjmkbljblaaDoor

end
section
namespace Go.Proofs.YtpoibjmkbljblaaDoor
set_option linter.unusedSimpArgs false
set_option linter.unusedVariables false
set_option linter.unusedSectionVars false
open Go.RowKit
section
variable (A C : Option Addr) (c b : Nat) (js : List J) (en : List Int) (w : World) (hr : Row w A (jc js)) (he : Row w C (ic en)) (hok : ∀ j ∈ js, okJ j = true) (h8 : js.length ≤ 8) (hv : vecB js.length en = true) (hT : TzTab w)
include hr he hok h8 hv hT
set_option maxRecDepth 100000 in
set_option maxHeartbeats 4000000 in
theorem isBalanced_any : Calls Tryd.prog 62 #[.agg #[.slice A js.length c, .slice C en.length b]] w fun e w' => e = .returned (.bool ((shL js en).isNone && decide (supL js en (List.range js.length) = demL js (List.range js.length)))) ∧ Below w.heap.size w w' := by
  have hpow : 2 ^ js.length - 1 < 256 := pow_lt js.length (by omega)
  have hma : memB (2 ^ js.length - 1) = List.range js.length := memB_all js.length (by omega)
  have hbt : ∀ k, (2 ^ js.length - 1).testBit k = true → k < js.length := fun k hk => all_bit (by omega) hk
  have HSU := Lib.hid (fun W (h : Below w.heap.size w W) => supply_any A c (2 ^ js.length - 1) js W hpow (hr.below h) hok hbt (hT.below h) C b en (he.below h) hv)
  have HDE := Lib.hid (fun W (h : Below w.heap.size w W) => demand_any A c (2 ^ js.length - 1) js W hpow (hr.below h) hok hbt (hT.below h))
  have HAL : Hid (∀ W : World, Calls Tryd.prog 110 #[.slice A js.length c] W fun e w' => e = .returned (.int .u64 ((2 ^ js.length - 1 : Nat) : Int)) ∧ Below W.heap.size W w') := fun W => (all_any A js.length c h8 W).mono fun _ _ ⟨h1, h2⟩ => ⟨h1, by subst h2; exact Below.refl _ _⟩
  have HSS := Lib.hid (fun W (h : Below w.heap.size w W) => shortSet_any A C c b js en W (hr.below h) (he.below h) hok h8 hv (hT.below h))
  have hb0 := (Below.refl w.heap.size w).alloc (Nat.le_refl _) (.cells #[.slice A js.length c, .slice C en.length b] 70)
  have hB0 := BlockIs.new w 70 #[.slice A js.length c, .slice C en.length b]
  have q0 := hB0.cell 0
  have q1 := hB0.cell 1
  simp only [List.getElem?_toArray, List.getElem?_cons_zero, List.getElem?_cons_succ] at q0 q1
  have H0 := Lib.hid (And.intro hb0 hB0)
  rw [hma] at HSU HDE
  clear hr he hok hv hT hpow hma hbt hb0 hB0
  generalize 2 ^ js.length - 1 = sx at *
  generalize supL js en (List.range js.length) = sup at *
  generalize demL js (List.range js.length) = dem at *
  have HBD : Hid (decide (sup = dem) = (sup == dem)) := by show _ = _; by_cases h : sup = dem <;> simp [h]
  rw [HBD.out]
  go_enter Tryd.func62, Tryd.ntmps62
  go_wp2_with fail
  refine (HSS.out _ H0.out.1).mono ?_
  rintro e w1 ⟨rfl, hb1⟩
  have H1 := Lib.hid (And.intro (H0.out.1.trans (hb1.mono H0.out.1.size)) (H0.out.2.below hb1))
  clear hb1 H0 HSS q0 q1
  cases hsm : shL js en with
  | some s =>
    go_wp2
    go_quiet (fail)
    go_wp2
    go_ret
    exact ⟨by rw [hsm]; rfl, below_drewN H1.out.1 _⟩
  | none =>
    go_wp2
    have kb : ∀ {X Y : World}, (Below w.heap.size w X ∧ BlockIs X w.heap.size 70 #[.slice A js.length c, .slice C en.length b]) → Below X.heap.size X Y → (Below w.heap.size w Y ∧ BlockIs Y w.heap.size 70 #[.slice A js.length c, .slice C en.length b]) := fun h hb => ⟨h.1.trans (hb.mono h.1.size), h.2.below hb⟩
    refine wp_region_detY (by kernel_rfl) (fun L w' => Below w.heap.size w w' ∧ BlockIs w' w.heap.size 70 #[.slice A js.length c, .slice C en.length b]) (fun kk => (#[.bool false, .bool true, .bool true, .agg #[.slice A js.length c, .slice C en.length b], .pointer (some ⟨w.heap.size, 0, none⟩), .slice A js.length c, .int .u64 (sx : Int), .int .i64 sup, .pointer (some ⟨w.heap.size, 0, none⟩), .slice A js.length c, .pointer (some ⟨w.heap.size, 0, none⟩), .slice A js.length c, .int .u64 (sx : Int), .int .i64 dem, .bool (sup == dem), .bool (sup == dem), .bool (sup == dem)] : Array Value).getD kk undef) (by kernel_rfl) (by kernel_rfl) ⟨H1.out.1.drew, H1.out.2.drew⟩ ?_ ?_
    · intro L tm w' hall hS hsz hlow hval
      have ht : tm = #[.agg #[.slice A js.length c, .slice C en.length b], .pointer (some ⟨w.heap.size, 0, none⟩), .bool (sup == dem), .int .u64 0, .bool false, .tuple #[.int .u64 0, .bool false], .agg #[.slice A js.length c, .slice C en.length b], .tuple #[.int .u64 0, .bool false], .int .u64 0, .bool false, .bool false, .bool true, .bool true, .agg #[.slice A js.length c, .slice C en.length b], .pointer (some ⟨w.heap.size, 0, none⟩), .slice A js.length c, .int .u64 (sx : Int), .int .i64 sup, .pointer (some ⟨w.heap.size, 0, none⟩), .slice A js.length c, .pointer (some ⟨w.heap.size, 0, none⟩), .slice A js.length c, .int .u64 (sx : Int), .int .i64 dem, .bool (sup == dem), .bool (sup == dem)] := by
        refine arr_of _ _ hsz fun t ht => ?_
        have ht' : t < 26 := ht
        rcases (by omega : t = 0 ∨ t = 1 ∨ t = 2 ∨ t = 3 ∨ t = 4 ∨ t = 5 ∨ t = 6 ∨ t = 7 ∨ t = 8 ∨ t = 9 ∨ t = 10 ∨ t = 11 ∨ t = 12 ∨ t = 13 ∨ t = 14 ∨ t = 15 ∨ t = 16 ∨ t = 17 ∨ t = 18 ∨ t = 19 ∨ t = 20 ∨ t = 21 ∨ t = 22 ∨ t = 23 ∨ t = 24 ∨ t = 25) with rfl | rfl | rfl | rfl | rfl | rfl | rfl | rfl | rfl | rfl | rfl | rfl | rfl | rfl | rfl | rfl | rfl | rfl | rfl | rfl | rfl | rfl | rfl | rfl | rfl | rfl
        · exact hlow 0 (by kernel_rfl)
        · exact hlow 1 (by kernel_rfl)
        · exact hval 16 _ 2 rfl rfl
        · exact hlow 3 (by kernel_rfl)
        · exact hlow 4 (by kernel_rfl)
        · exact hlow 5 (by kernel_rfl)
        · exact hlow 6 (by kernel_rfl)
        · exact hlow 7 (by kernel_rfl)
        · exact hlow 8 (by kernel_rfl)
        · exact hlow 9 (by kernel_rfl)
        · exact hval 0 _ 10 rfl rfl
        · exact hval 1 _ 11 rfl rfl
        · exact hval 2 _ 12 rfl rfl
        · exact hval 3 _ 13 rfl rfl
        · exact hval 4 _ 14 rfl rfl
        · exact hval 5 _ 15 rfl rfl
        · exact hval 6 _ 16 rfl rfl
        · exact hval 7 _ 17 rfl rfl
        · exact hval 8 _ 18 rfl rfl
        · exact hval 9 _ 19 rfl rfl
        · exact hval 10 _ 20 rfl rfl
        · exact hval 11 _ 21 rfl rfl
        · exact hval 12 _ 22 rfl rfl
        · exact hval 13 _ 23 rfl rfl
        · exact hval 14 _ 24 rfl rfl
        · exact hval 15 _ 25 rfl rfl
      subst ht
      have HF := Lib.hid hS
      clear hlow hval hsz hall hS
      go_wp2
      go_ret
      exact ⟨by rw [hsm]; rfl, HF.out.1⟩
    · intro L ac w' q op hLs hop hLi hLd hLn hS0 hlow hdep _
      have hq : q < 17 := (Array.getElem?_eq_some_iff.1 hop).1
      rcases (by omega : q = 0 ∨ q = 1 ∨ q = 2 ∨ q = 3 ∨ q = 4 ∨ q = 5 ∨ q = 6 ∨ q = 7 ∨ q = 8 ∨ q = 9 ∨ q = 10 ∨ q = 11 ∨ q = 12 ∨ q = 13 ∨ q = 14 ∨ q = 15 ∨ q = 16) with rfl | rfl | rfl | rfl | rfl | rfl | rfl | rfl | rfl | rfl | rfl | rfl | rfl | rfl | rfl | rfl | rfl
      · obtain rfl := Option.some.inj hop
        have e4 : ac.tmps[4]?.getD undef = .bool false := (Array.getD_eq_getD_getElem? ..).symm.trans (hlow 4 (by kernel_rfl))
        exact ⟨wanted_free rfl, .inl (.inl ⟨w', by simp [execOp, Act.eval, e4, go_sem], hS0⟩)⟩
      · obtain rfl := Option.some.inj hop
        have e10 : ac.tmps[10]?.getD undef = .bool false := (Array.getD_eq_getD_getElem? ..).symm.trans (hdep 0 _ 10 (by kernel_rfl) rfl rfl)
        exact ⟨wanted_free rfl, .inl (.inl ⟨w', by simp [execOp, Act.eval, e10, go_sem], hS0⟩)⟩
      · obtain rfl := Option.some.inj hop
        have e11 : ac.tmps[11]?.getD undef = .bool true := (Array.getD_eq_getD_getElem? ..).symm.trans (hdep 1 _ 11 (by kernel_rfl) rfl rfl)
        exact ⟨wanted_free rfl, .inl (.inl ⟨w', by simp [execOp, Act.eval, e11, go_sem], hS0⟩)⟩
      · obtain rfl := Option.some.inj hop
        have e1 : ac.tmps[1]?.getD undef = .pointer (some ⟨w.heap.size, 0, none⟩) := (Array.getD_eq_getD_getElem? ..).symm.trans (hlow 1 (by kernel_rfl))
        have q0 := hS0.2.cell 0
        have q1 := hS0.2.cell 1
        simp only [List.getElem?_toArray, List.getElem?_cons_zero, List.getElem?_cons_succ] at q0 q1
        exact ⟨wanted_guard (g := 2) (d := 12) (b := true) rfl rfl rfl (hdep 2 _ 12 (by kernel_rfl) rfl rfl), .inl (.inl ⟨w', by simp [execOp, Act.eval, e1, q0, q1, go_sem], hS0⟩)⟩
      · obtain rfl := Option.some.inj hop
        have e1 : ac.tmps[1]?.getD undef = .pointer (some ⟨w.heap.size, 0, none⟩) := (Array.getD_eq_getD_getElem? ..).symm.trans (hlow 1 (by kernel_rfl))
        exact ⟨wanted_guard (g := 2) (d := 12) (b := true) rfl rfl rfl (hdep 2 _ 12 (by kernel_rfl) rfl rfl), .inl (.inl ⟨w', by simp [execOp, Act.eval, e1, go_sem], hS0⟩)⟩
      · obtain rfl := Option.some.inj hop
        have e14 : ac.tmps[14]?.getD undef = .pointer (some ⟨w.heap.size, 0, none⟩) := (Array.getD_eq_getD_getElem? ..).symm.trans (hdep 4 _ 14 (by kernel_rfl) rfl rfl)
        have q0 := hS0.2.cell 0
        have q1 := hS0.2.cell 1
        simp only [List.getElem?_toArray, List.getElem?_cons_zero, List.getElem?_cons_succ] at q0 q1
        exact ⟨wanted_guard (g := 2) (d := 12) (b := true) rfl rfl rfl (hdep 2 _ 12 (by kernel_rfl) rfl rfl), .inl (.inl ⟨w', by simp [execOp, Act.eval, e14, q0, go_sem], hS0⟩)⟩
      · obtain rfl := Option.some.inj hop
        have e15 : ac.tmps[15]?.getD undef = .slice A js.length c := (Array.getD_eq_getD_getElem? ..).symm.trans (hdep 5 _ 15 (by kernel_rfl) rfl rfl)
        refine ⟨wanted_guard (g := 2) (d := 12) (b := true) rfl rfl rfl (hdep 2 _ 12 (by kernel_rfl) rfl rfl), .inl (.inr ⟨110, #[.slice A js.length c], by simp [execOp, Act.eval, e15, go_sem], (HAL.out w').mono ?_⟩)⟩
        rintro e w2 ⟨rfl, hb⟩
        exact ⟨rfl, kb hS0 hb⟩
      · obtain rfl := Option.some.inj hop
        have e13 : ac.tmps[13]?.getD undef = .agg #[.slice A js.length c, .slice C en.length b] := (Array.getD_eq_getD_getElem? ..).symm.trans (hdep 3 _ 13 (by kernel_rfl) rfl rfl)
        have e16 : ac.tmps[16]?.getD undef = .int .u64 (sx : Int) := (Array.getD_eq_getD_getElem? ..).symm.trans (hdep 6 _ 16 (by kernel_rfl) rfl rfl)
        refine ⟨wanted_guard (g := 2) (d := 12) (b := true) rfl rfl rfl (hdep 2 _ 12 (by kernel_rfl) rfl rfl), .inl (.inr ⟨56, #[.agg #[.slice A js.length c, .slice C en.length b], .int .u64 (sx : Int)], by simp [execOp, Act.eval, e13, e16, go_sem], (HSU.out w' hS0.1).mono ?_⟩)⟩
        rintro e w2 ⟨rfl, hb⟩
        exact ⟨rfl, kb hS0 hb⟩
      · obtain rfl := Option.some.inj hop
        have e1 : ac.tmps[1]?.getD undef = .pointer (some ⟨w.heap.size, 0, none⟩) := (Array.getD_eq_getD_getElem? ..).symm.trans (hlow 1 (by kernel_rfl))
        exact ⟨wanted_guard (g := 2) (d := 12) (b := true) rfl rfl rfl (hdep 2 _ 12 (by kernel_rfl) rfl rfl), .inl (.inl ⟨w', by simp [execOp, Act.eval, e1, go_sem], hS0⟩)⟩
      · obtain rfl := Option.some.inj hop
        have e18 : ac.tmps[18]?.getD undef = .pointer (some ⟨w.heap.size, 0, none⟩) := (Array.getD_eq_getD_getElem? ..).symm.trans (hdep 8 _ 18 (by kernel_rfl) rfl rfl)
        have q0 := hS0.2.cell 0
        have q1 := hS0.2.cell 1
        simp only [List.getElem?_toArray, List.getElem?_cons_zero, List.getElem?_cons_succ] at q0 q1
        exact ⟨wanted_guard (g := 2) (d := 12) (b := true) rfl rfl rfl (hdep 2 _ 12 (by kernel_rfl) rfl rfl), .inl (.inl ⟨w', by simp [execOp, Act.eval, e18, q0, go_sem], hS0⟩)⟩
      · obtain rfl := Option.some.inj hop
        have e1 : ac.tmps[1]?.getD undef = .pointer (some ⟨w.heap.size, 0, none⟩) := (Array.getD_eq_getD_getElem? ..).symm.trans (hlow 1 (by kernel_rfl))
        exact ⟨wanted_guard (g := 2) (d := 12) (b := true) rfl rfl rfl (hdep 2 _ 12 (by kernel_rfl) rfl rfl), .inl (.inl ⟨w', by simp [execOp, Act.eval, e1, go_sem], hS0⟩)⟩
      · obtain rfl := Option.some.inj hop
        have e20 : ac.tmps[20]?.getD undef = .pointer (some ⟨w.heap.size, 0, none⟩) := (Array.getD_eq_getD_getElem? ..).symm.trans (hdep 10 _ 20 (by kernel_rfl) rfl rfl)
        have q0 := hS0.2.cell 0
        have q1 := hS0.2.cell 1
        simp only [List.getElem?_toArray, List.getElem?_cons_zero, List.getElem?_cons_succ] at q0 q1
        exact ⟨wanted_guard (g := 2) (d := 12) (b := true) rfl rfl rfl (hdep 2 _ 12 (by kernel_rfl) rfl rfl), .inl (.inl ⟨w', by simp [execOp, Act.eval, e20, q0, go_sem], hS0⟩)⟩
      · obtain rfl := Option.some.inj hop
        have e21 : ac.tmps[21]?.getD undef = .slice A js.length c := (Array.getD_eq_getD_getElem? ..).symm.trans (hdep 11 _ 21 (by kernel_rfl) rfl rfl)
        refine ⟨wanted_guard (g := 2) (d := 12) (b := true) rfl rfl rfl (hdep 2 _ 12 (by kernel_rfl) rfl rfl), .inl (.inr ⟨110, #[.slice A js.length c], by simp [execOp, Act.eval, e21, go_sem], (HAL.out w').mono ?_⟩)⟩
        rintro e w2 ⟨rfl, hb⟩
        exact ⟨rfl, kb hS0 hb⟩
      · obtain rfl := Option.some.inj hop
        have e19 : ac.tmps[19]?.getD undef = .slice A js.length c := (Array.getD_eq_getD_getElem? ..).symm.trans (hdep 9 _ 19 (by kernel_rfl) rfl rfl)
        have e22 : ac.tmps[22]?.getD undef = .int .u64 (sx : Int) := (Array.getD_eq_getD_getElem? ..).symm.trans (hdep 12 _ 22 (by kernel_rfl) rfl rfl)
        refine ⟨wanted_guard (g := 2) (d := 12) (b := true) rfl rfl rfl (hdep 2 _ 12 (by kernel_rfl) rfl rfl), .inl (.inr ⟨50, #[.slice A js.length c, .int .u64 (sx : Int)], by simp [execOp, Act.eval, e19, e22, go_sem], (HDE.out w' hS0.1).mono ?_⟩)⟩
        rintro e w2 ⟨rfl, hb⟩
        exact ⟨rfl, kb hS0 hb⟩
      · obtain rfl := Option.some.inj hop
        have e17 : ac.tmps[17]?.getD undef = .int .i64 sup := (Array.getD_eq_getD_getElem? ..).symm.trans (hdep 7 _ 17 (by kernel_rfl) rfl rfl)
        have e23 : ac.tmps[23]?.getD undef = .int .i64 dem := (Array.getD_eq_getD_getElem? ..).symm.trans (hdep 13 _ 23 (by kernel_rfl) rfl rfl)
        exact ⟨wanted_guard (g := 2) (d := 12) (b := true) rfl rfl rfl (hdep 2 _ 12 (by kernel_rfl) rfl rfl), .inl (.inl ⟨w', by simp [execOp, Act.eval, e17, e23, go_sem], hS0⟩)⟩
      · obtain rfl := Option.some.inj hop
        have e12 : ac.tmps[12]?.getD undef = .bool true := (Array.getD_eq_getD_getElem? ..).symm.trans (hdep 2 _ 12 (by kernel_rfl) rfl rfl)
        have e24 : ac.tmps[24]?.getD undef = .bool (sup == dem) := (Array.getD_eq_getD_getElem? ..).symm.trans (hdep 14 _ 24 (by kernel_rfl) rfl rfl)
        exact ⟨wanted_free rfl, .inl (.inl ⟨w', by simp [execOp, Act.eval, e12, e24, go_sem], hS0⟩)⟩
      · obtain rfl := Option.some.inj hop
        have e25 : ac.tmps[25]?.getD undef = .bool (sup == dem) := (Array.getD_eq_getD_getElem? ..).symm.trans (hdep 15 _ 25 (by kernel_rfl) rfl rfl)
        exact ⟨wanted_free rfl, .inl (.inl ⟨w', by simp [execOp, Act.eval, e25, go_sem], hS0⟩)⟩
end
theorem shGo_lt {js : List J} {en : List Int} {p : List Nat} (hp : ∀ x ∈ p, x < 8) : ∀ (f k s : Nat), k + f ≤ p.length → shGo js en p f k = some s → s < 256
  | 0, _, _, _, h => by cases h
  | f + 1, k, s, hk, h => by
    rw [shGo] at h
    split at h
    · obtain rfl := Option.some.inj h
      exact setP_lt hp (k + 1) (by omega)
    · exact shGo_lt hp f (k + 1) s (by omega) h
theorem shL_lt {js : List J} {en : List Int} (h8 : en.length ≤ 8) : (shL js en).getD 0 < 256 := by
  cases h : shL js en with
  | none => show 0 < 256; omega
  | some s => exact shGo_lt (js := js) (en := en) (p := eoL en) (fun x hx => by have := eoL_in en hx; omega) en.length 0 s (by rw [eoL_len]; omega) h
theorem shortR_no2 (js : List J) (en : List Int) (h : (plainL js && vecB js.length en) = false) : shortR js en = ([], false) := by unfold shortR; rw [h]; rfl
section
variable (A C : Option Addr) (c b : Nat) (js : List J) (en : List Int) (w : World) (hr : Row w A (jc js)) (he : Row w C (ic en)) (hn : js.length ≤ 10000000) (hel : en.length ≤ 10000000) (hT : TzTab w)
include hr he hn hel hT
set_option maxRecDepth 100000 in
set_option maxHeartbeats 2000000 in
theorem impl_ShortSet : Calls Tryd.prog 23 #[.slice A js.length c, .slice C en.length b] w (RetIB w (shortR js en)) := by
  have HT := Lib.hid hT
  have HRJ := Lib.hid hr
  have HE := Lib.hid he
  have HEV := Lib.hid (endVectorOf_any A C c b js en w hr he hn hel)
  clear hT hr he
  go_enter Tryd.func23, Tryd.ntmps23
  go_wp2_with fail
  refine HEV.out.mono ?_
  rintro e1 w1 ⟨hb1, ⟨hp, hv, rfl⟩ | ⟨hp, rfl⟩⟩
  · have HB2 := Lib.hid (And.intro (hb1.alloc hb1.size (.cells #[.slice A js.length c, .slice C en.length b] 70)) (BlockIs.new w1 70 #[.slice A js.length c, .slice C en.length b]))
    have q0 := HB2.out.2.cell 0
    have q1 := HB2.out.2.cell 1
    simp only [List.getElem?_toArray, List.getElem?_cons_zero, List.getElem?_cons_succ] at q0 q1
    obtain ⟨h8, hok⟩ := good_out (plain_good hp)
    have HR := Lib.hid (shortR_eq js en (by rw [hp, hv]; rfl))
    have HSS := Lib.hid (shortSet_any A C c b js en _ (HRJ.out.below HB2.out.1) (HE.out.below HB2.out.1) hok h8 hv (HT.out.below HB2.out.1))
    have hlt := shL_lt (js := js) (en := en) (by have := (vec_out hv).1; omega)
    have HLI := Lib.hid (fun W (h : Below w.heap.size w W) => list_any ((shL js en).getD 0) W hlt (HT.out.below h))
    have HSL : Hid (shLst js en = memB ((shL js en).getD 0)) := rfl
    clear hok hv hp HEV
    generalize (shL js en).getD 0 = sx at *
    generalize (shL js en).isSome = ok at *
    go_wp2_with fail
    refine HSS.out.mono ?_
    rintro e w2 ⟨rfl, hb2⟩
    have HB3 := Lib.hid (HB2.out.1.trans (hb2.mono HB2.out.1.size))
    have HLL := Lib.hid (HLI.out w2 HB3.out)
    clear hb2 HSS q0 q1 HLI
    go_wp2_with fail
    refine HLL.out.mono ?_
    rintro e w3 ⟨v, rfl, hown, hb3⟩
    have HX := Lib.hid (And.intro (own_lower hown HB3.out.size) (HB3.out.trans (hb3.mono HB3.out.size)))
    clear hown hb3 HLL
    go_wp2
    go_ret2
    exact ret_ownS (HR.out.trans (by rw [HSL.out])) rfl HX.out.1 HX.out.2 _ rfl
  · have HR := Lib.hid (shortR_no2 js en hp)
    have HB2 := Lib.hid (hb1.alloc hb1.size (.cells #[.slice none 0 0, .slice none 0 0] 70))
    clear HEV
    go_wp2
    go_ret2
    exact ret_empty HR.out HB2.out _ (by simp only [World.size_alloc]; rfl)
set_option maxRecDepth 100000 in
set_option maxHeartbeats 2000000 in
theorem impl_IsBalanced : Calls Tryd.prog 28 #[.slice A js.length c, .slice C en.length b] w (RetBB w (balR js en)) := by
  have HR : Hid (balR js en = if plainL js && vecB js.length en then ((shL js en).isNone && decide (supL js en (List.range js.length) = demL js (List.range js.length)), true) else (false, false)) := rfl
  have HT := Lib.hid hT
  have HRJ := Lib.hid hr
  have HE := Lib.hid he
  have HEV := Lib.hid (endVectorOf_any A C c b js en w hr he hn hel)
  clear hT hr he
  go_enter Tryd.func28, Tryd.ntmps28
  go_wp2_with fail
  refine HEV.out.mono ?_
  rintro e1 w1 ⟨hb1, ⟨hp, hv, rfl⟩ | ⟨hp, rfl⟩⟩
  · have HB2 := Lib.hid (And.intro (hb1.alloc hb1.size (.cells #[.slice A js.length c, .slice C en.length b] 70)) (BlockIs.new w1 70 #[.slice A js.length c, .slice C en.length b]))
    have q0 := HB2.out.2.cell 0
    have q1 := HB2.out.2.cell 1
    simp only [List.getElem?_toArray, List.getElem?_cons_zero, List.getElem?_cons_succ] at q0 q1
    obtain ⟨h8, hok⟩ := good_out (plain_good hp)
    have HSS := Lib.hid (isBalanced_any A C c b js en _ (HRJ.out.below HB2.out.1) (HE.out.below HB2.out.1) hok h8 hv (HT.out.below HB2.out.1))
    rw [hp, hv] at HR
    clear hok hv hp HEV
    generalize ((shL js en).isNone && decide (supL js en (List.range js.length) = demL js (List.range js.length))) = res at *
    go_wp2_with fail
    refine HSS.out.mono ?_
    rintro e w2 ⟨rfl, hb2⟩
    have HB3 := Lib.hid (HB2.out.1.trans (hb2.mono HB2.out.1.size))
    clear hb2 HSS q0 q1
    go_wp2
    go_ret2
    exact ⟨by rw [HR.out]; rfl, HB3.out⟩
  · rw [hp] at HR
    have HB2 := Lib.hid (hb1.alloc hb1.size (.cells #[.slice none 0 0, .slice none 0 0] 70))
    clear HEV
    go_wp2
    go_ret2
    exact ⟨by rw [HR.out]; rfl, HB2.out⟩
end
end Go.Proofs.YtpoibjmkbljblaaDoor

end
