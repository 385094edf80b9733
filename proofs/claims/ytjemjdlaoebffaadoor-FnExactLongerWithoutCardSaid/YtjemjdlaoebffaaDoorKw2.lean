/- Texts joined: RegA RegP SwapS Swap InsL LmI Rpt LpI LpF LpO LsQ TkI TkE TkJ TkO LwI LwE CatP CatQ LwO LwP PrT ArgP. -/
import Derived.Test.YtjemjdlaoebffaaDoorKb1
import Derived.Test.YtjemjdlaoebffaaDoorKb3
import Derived.Laws.Cover3
import Derived.RegionTactic
import Derived.BigRegion
import Derived.Test.YtjemjdlaoebffaaDoorShelf
import Derived.Shelf.Spec.SlicesInsert
import Derived.Test.YtjemjdlaoebffaaDoorEndsO
import Derived.Test.YtjemjdlaoebffaaDoorKw1
import Derived.StillTailTactics
import Derived.Test.YtjemjdlaoebffaaDoorEnds
import Derived.Laws.CopyOwn
import Derived.Test.YtjemjdlaoebffaaDoorOrd
import Derived.Test.YtjemjdlaoebffaaDoorRetBB
import Derived.Test.YtjemjdlaoebffaaDoorPrecP
import Derived.Test.YtjemjdlaoebffaaDoorKb2
import Derived.Lib.AppendZeros
import Derived.Test.YtjemjdlaoebffaaDoorPairs
import Derived.Test.YtjemjdlaoebffaaDoorArgJ
import Derived.Test.YtjemjdlaoebffaaDoorPrC
import Derived.OpenShut
set_option linter.unusedSimpArgs false
set_option linter.unusedVariables false
section
namespace Go.Proofs.YtjemjdlaoebffaaDoor
section
variable {P : Program} {ops : Array Oper} {Q : Exit → Act → World → Prop}
def StepA {γ : Type} (P : Program) (S : γ → Array Bool → World → Prop) (val : γ → Nat → Value) (x : γ) (L : Array Bool) (i : Nat) (o : Oper) (a : Act) (w : World) : Prop :=
  (∃ x' w', (∀ j, L.getD j true = true → val x' j = val x j) ∧ (execOp a.eval o).run P w = .ok (.value (val x' i)) w' ∧ S x' (L.setIfInBounds i true) w') ∨
  (∃ f args, (execOp a.eval o).run P w = .ok (.enter f args) w ∧ Calls P f args w fun e w' => ∃ x', (∀ j, L.getD j true = true → val x' j = val x j) ∧ e = .returned (val x' i) ∧ S x' (L.setIfInBounds i true) w') ∨
  (∃ w', o.dst = none ∧ (execOp a.eval o).run P w = .ok .skip w' ∧ S x (L.setIfInBounds i true) w')
/-- As wp_region_detY; what an operation yields may be chosen when it runs (an address). -/
theorem wp_region_detA {γ : Type} {id : Nat} {tm0 : Array Value} {df : List Deferred} {w : World} (hm : P.follows .mixedOrders = true) (S : γ → Array Bool → World → Prop) (val : γ → Nat → Value) (x0 : γ) (hback : backBB ops = true) (hown : ownDst ops tm0.size = true)
    (h0 : S x0 (Array.replicate ops.size false) w.drew)
    (hdone : ∀ (x : γ) (L : Array Bool) (tm : Array Value) (w : World), (∀ i, i < ops.size → L.getD i true = true) → S x L w → tm.size = tm0.size → (∀ t, ((List.range ops.size).all fun j => !((ops[j]?).bind (·.dst) == some t)) = true → tm.getD t undef = tm0.getD t undef) → (∀ j o d, ops[j]? = some o → o.dst = some d → tm.getD d undef = val x j) → Q .normal ⟨tm, df⟩ w)
    (hstep : ∀ (x : γ) (L : Array Bool) (a : Act) (w : World) (i : Nat) (o : Oper), L.size = ops.size → ops[i]? = some o → L.getD i true = false → (∀ j, edgeB ops i j = true → L.getD j true = true) → (∀ j, edgeB ops j i = true → L.getD j true = false) → S x L w → (∀ t, ((List.range ops.size).all fun j => !((ops[j]?).bind (·.dst) == some t)) = true → a.tmps.getD t undef = tm0.getD t undef) →
      (∀ j oj d, edgeB ops i j = true → ops[j]? = some oj → oj.dst = some d → a.tmps.getD d undef = val x j) →
      (∀ j oj d, edgeB ops j i = true → ops[j]? = some oj → oj.dst = some d → a.tmps.getD d undef = tm0.getD d undef) → Region.wanted o (yielded ops a.tmps) = true ∧ StepA P S val x L i o a w) :
    (Code.region id ops true).wp P Q ⟨tm0, df⟩ w := by
  refine wp_region_invB hm (fun L a w => ∃ x, S x L w ∧ a.defers = df ∧ a.tmps.size = tm0.size ∧ (∀ t, ((List.range ops.size).all fun j => !((ops[j]?).bind (·.dst) == some t)) = true → a.tmps.getD t undef = tm0.getD t undef) ∧ (∀ j o d, ops[j]? = some o → o.dst = some d → L.getD j true = true → a.tmps.getD d undef = val x j) ∧ (∀ j o d, ops[j]? = some o → o.dst = some d → L.getD j true = false → a.tmps.getD d undef = tm0.getD d undef)) (back_ofB hback) ?_ ?_ ?_
  · refine ⟨x0, h0, rfl, rfl, fun _ _ => rfl, fun j o d ho _ hl => ?_, fun _ _ _ _ _ _ => rfl⟩
    have hj : j < ops.size := (Array.getElem?_eq_some_iff.1 ho).1
    simp [Array.getD_eq_getD_getElem?, hj] at hl
  · intro L a w ⟨x, hS, hdf, hsz, hlow, hval, _⟩ hall
    obtain ⟨tm, df'⟩ := a
    simp only at hdf hsz
    subst hdf
    exact hdone x L tm w hall hS hsz hlow (fun j o d ho hd => hval j o d ho hd (hall j (Array.getElem?_eq_some_iff.1 ho).1))
  · intro L a w i o hC ⟨x, hS, hdf, hsz, hlow, hval, hold⟩ ho hl hd
    obtain ⟨hg, hst⟩ := hstep x L a w i o hC.1 ho hl (fun j he => dep_of ho hd he) (fun j he => hC.no he hl) hS hlow (fun j oj d he hoj hdj => hval j oj d hoj hdj (dep_of ho hd he)) (fun j oj d he hoj hdj => hold j oj d hoj hdj (hC.no he hl))
    have next : ∀ x' w', (∀ j, L.getD j true = true → val x' j = val x j) → S x' (L.setIfInBounds i true) w' → S x' (L.setIfInBounds i true) w' ∧ (a.put o.dst (val x' i)).defers = df ∧ (a.put o.dst (val x' i)).tmps.size = tm0.size ∧ (∀ t, ((List.range ops.size).all fun j => !((ops[j]?).bind (·.dst) == some t)) = true → (a.put o.dst (val x' i)).tmps.getD t undef = tm0.getD t undef) ∧ (∀ j o' d, ops[j]? = some o' → o'.dst = some d → (L.setIfInBounds i true).getD j true = true → (a.put o.dst (val x' i)).tmps.getD d undef = val x' j) ∧ (∀ j o' d, ops[j]? = some o' → o'.dst = some d → (L.setIfInBounds i true).getD j true = false → (a.put o.dst (val x' i)).tmps.getD d undef = tm0.getD d undef) := by
      intro x' w' hag hS'
      cases hod : o.dst with
      | none =>
        refine ⟨hS', hdf, hsz, hlow, fun j o' d ho' hd' hl' => ?_, fun j o' d ho' hd' hl' => ?_⟩
        · have hne : i ≠ j := fun e => by subst e; rw [ho] at ho'; injection ho' with ho'; subst ho'; rw [hod] at hd'; cases hd'
          rw [getD_set_true, if_neg (fun h => hne h.1)] at hl'
          rw [hag j hl']; exact hval j o' d ho' hd' hl'
        · have hne : i ≠ j := fun e => by subst e; rw [ho] at ho'; injection ho' with ho'; subst ho'; rw [hod] at hd'; cases hd'
          rw [getD_set_true, if_neg (fun h => hne h.1)] at hl'
          exact hold j o' d ho' hd' hl'
      | some d0 =>
        have hput : ∀ t, (a.put (some d0) (val x' i)).tmps.getD t undef = if d0 = t ∧ t < a.tmps.size then val x' i else a.tmps.getD t undef := by
          intro t
          unfold Act.put
          simp only [Array.getD_eq_getD_getElem?, Array.getElem?_setIfInBounds]
          by_cases e : d0 = t
          · subst e
            by_cases h : d0 < a.tmps.size
            · simp [h]
            · simp [h]
          · simp [e]
        refine ⟨hS', hdf, by simp [Act.put, hsz], fun t ht => ?_, fun j o' d ho' hd' hl' => ?_, fun j o' d ho' hd' hl' => ?_⟩
        · rw [hput, if_neg (fun h => ?_)]
          · exact hlow t ht
          · have := List.all_eq_true.1 ht i (List.mem_range.2 (Array.getElem?_eq_some_iff.1 ho).1)
            rw [ho] at this
            simp [hod, h.1] at this
        · rw [hput]
          by_cases e : d0 = d
          · subst e
            have hij := ownDst_inj hown ho hod ho' hd'
            subst hij
            rw [if_pos ⟨rfl, by rw [hsz]; exact ownDst_lt hown ho hod⟩]
          · rw [if_neg (fun h => e h.1)]
            have hne : i ≠ j := fun e' => by subst e'; rw [ho] at ho'; injection ho' with ho'; subst ho'; rw [hod] at hd'; injection hd' with hd'; exact e hd'
            rw [getD_set_true, if_neg (fun h => hne h.1)] at hl'
            rw [hag j hl']; exact hval j o' d ho' hd' hl'
        · have hli : i ≠ j := fun e => by
            subst e
            have hC1 : i < L.size := by rw [hC.1]; exact (Array.getElem?_eq_some_iff.1 ho).1
            rw [getD_set_true, if_pos ⟨rfl, hC1⟩] at hl'; cases hl'
          rw [getD_set_true, if_neg (fun h => hli h.1)] at hl'
          have hdd : d0 ≠ d := fun e => by subst e; exact hli (ownDst_inj hown ho' hd' ho hod)
          rw [hput, if_neg (fun h => hdd h.1)]
          exact hold j o' d ho' hd' hl'
    rcases hst with ⟨x', w', hag, hr, hS'⟩ | ⟨f, args, hr, hc⟩ | ⟨w', hnd, hr, hS'⟩
    · exact wpOp_valueW ho hg hr ⟨x', next x' w' hag hS'⟩
    · refine wpOp_enterW ho hg hr (hc.mono ?_)
      rintro e w' ⟨x', hag, rfl, hS'⟩
      exact ⟨_, rfl, x', next x' w' hag hS'⟩
    · refine wpOp_skipY ho hg hr ⟨x, ?_⟩
      have h := next x w' (fun _ _ => rfl) hS'
      rw [hnd] at h ⊢
      exact h
end
open Go.RowKit
theorem listed_ne {L : Array Bool} {i j : Nat} (h : i ≠ j) : (L.setIfInBounds i true).getD j true = L.getD j true := by rw [getD_set_true, if_neg (fun q => h q.1)]
theorem listed_at {L : Array Bool} {i : Nat} (h : i < L.size) : (L.setIfInBounds i true).getD i true = true := by rw [getD_set_true, if_pos ⟨rfl, h⟩]
/-- Two new variables of one type: where they lie, and whether they were made (a1, a2) and written (s1, s2). -/
def Two (wr : World) (t : TypeId) (Z A1 A2 : Array Value) (a1 a2 s1 s2 : Nat) (x : Nat × Nat) (L : Array Bool) (W : World) : Prop :=
  Below wr.heap.size wr W ∧ (L.getD a1 true = true → wr.heap.size ≤ x.1 ∧ BlockIs W x.1 t (if L.getD s1 true = true then A1 else Z)) ∧
  (L.getD a2 true = true → wr.heap.size ≤ x.2 ∧ BlockIs W x.2 t (if L.getD s2 true = true then A2 else Z)) ∧ (L.getD a1 true = true → L.getD a2 true = true → x.1 ≠ x.2)
section
variable {wr : World} {t : TypeId} {Z A1 A2 : Array Value} {a1 a2 s1 s2 : Nat} {x : Nat × Nat} {L : Array Bool} {W W' : World}
theorem Two.below (h : Two wr t Z A1 A2 a1 a2 s1 s2 x L W) (hb : Below W.heap.size W W') : Two wr t Z A1 A2 a1 a2 s1 s2 x L W' :=
  ⟨h.1.trans (hb.mono h.1.size), fun e => ⟨(h.2.1 e).1, (h.2.1 e).2.below hb⟩, fun e => ⟨(h.2.2.1 e).1, (h.2.2.1 e).2.below hb⟩, h.2.2.2⟩
theorem Two.other (h : Two wr t Z A1 A2 a1 a2 s1 s2 x L W) {i : Nat} (h1 : i ≠ a1) (h2 : i ≠ a2) (h3 : i ≠ s1) (h4 : i ≠ s2) : Two wr t Z A1 A2 a1 a2 s1 s2 x (L.setIfInBounds i true) W := by
  unfold Two
  rw [listed_ne h1, listed_ne h2, listed_ne h3, listed_ne h4]
  exact h
theorem Two.new1 (h : Two wr t Z A1 A2 a1 a2 s1 s2 x L W) (d2 : a1 ≠ a2) (d3 : a1 ≠ s1) (d4 : a1 ≠ s2) (hs : L.getD s1 true = false) : Two wr t Z A1 A2 a1 a2 s1 s2 (W.heap.size, x.2) (L.setIfInBounds a1 true) (W.alloc (.cells Z t)) := by
  have hb := (Below.refl W.heap.size W).alloc (Nat.le_refl _) (.cells Z t)
  refine ⟨h.1.trans (hb.mono h.1.size), fun _ => ⟨h.1.size, ?_⟩, fun e => ?_, fun _ e => ?_⟩
  · rw [listed_ne d3, hs, if_neg (by decide)]
    exact BlockIs.new W t Z
  · rw [listed_ne d2] at e
    rw [listed_ne d4]
    exact ⟨(h.2.2.1 e).1, (h.2.2.1 e).2.below hb⟩
  · rw [listed_ne d2] at e
    have := (Array.getElem?_eq_some_iff.1 (h.2.2.1 e).2).1
    show W.heap.size ≠ x.2
    omega
theorem Two.new2 (h : Two wr t Z A1 A2 a1 a2 s1 s2 x L W) (d2 : a2 ≠ a1) (d3 : a2 ≠ s1) (d4 : a2 ≠ s2) (hs : L.getD s2 true = false) : Two wr t Z A1 A2 a1 a2 s1 s2 (x.1, W.heap.size) (L.setIfInBounds a2 true) (W.alloc (.cells Z t)) := by
  have hb := (Below.refl W.heap.size W).alloc (Nat.le_refl _) (.cells Z t)
  refine ⟨h.1.trans (hb.mono h.1.size), fun e => ?_, fun _ => ⟨h.1.size, ?_⟩, fun e _ => ?_⟩
  · rw [listed_ne d2] at e
    rw [listed_ne d3]
    exact ⟨(h.2.1 e).1, (h.2.1 e).2.below hb⟩
  · rw [listed_ne d4, hs, if_neg (by decide)]
    exact BlockIs.new W t Z
  · rw [listed_ne d2] at e
    have := (Array.getElem?_eq_some_iff.1 (h.2.1 e).2).1
    show x.1 ≠ W.heap.size
    omega
theorem Two.put1 (h : Two wr t Z A1 A2 a1 a2 s1 s2 x L W) (d2 : s1 ≠ a1) (d3 : s1 ≠ a2) (d4 : s1 ≠ s2) (hsz : s1 < L.size) (ha : L.getD a1 true = true) (hb : Below wr.heap.size W W') (hB : BlockIs W' x.1 t A1) (ho : ∀ g cs, g ≠ x.1 → BlockIs W g t cs → BlockIs W' g t cs) : Two wr t Z A1 A2 a1 a2 s1 s2 x (L.setIfInBounds s1 true) W' := by
  unfold Two
  rw [listed_ne d2, listed_ne d3, listed_ne d4, listed_at hsz, if_pos rfl]
  exact ⟨h.1.trans hb, fun e => ⟨(h.2.1 e).1, hB⟩, fun e => ⟨(h.2.2.1 e).1, ho _ _ (fun q => h.2.2.2 ha e q.symm) (h.2.2.1 e).2⟩, h.2.2.2⟩
theorem Two.put2 (h : Two wr t Z A1 A2 a1 a2 s1 s2 x L W) (d2 : s2 ≠ a1) (d3 : s2 ≠ a2) (d4 : s2 ≠ s1) (hsz : s2 < L.size) (ha : L.getD a2 true = true) (hb : Below wr.heap.size W W') (hB : BlockIs W' x.2 t A2) (ho : ∀ g cs, g ≠ x.2 → BlockIs W g t cs → BlockIs W' g t cs) : Two wr t Z A1 A2 a1 a2 s1 s2 x (L.setIfInBounds s2 true) W' := by
  unfold Two
  rw [listed_ne d2, listed_ne d3, listed_ne d4, listed_at hsz, if_pos rfl]
  exact ⟨h.1.trans hb, fun e => ⟨(h.2.1 e).1, ho _ _ (fun q => h.2.2.2 e ha q) (h.2.1 e).2⟩, fun e => ⟨(h.2.2.1 e).1, hB⟩, h.2.2.2⟩
theorem three_set {B g : Nat} {y0 y1 y2 v0 v1 v2 : Value} (h : BlockIs W g t #[y0, y1, y2]) (hg : B ≤ g) :
    Below B W (((W.setCell ⟨g, 0, none⟩ v0).setCell ⟨g, 1, none⟩ v1).setCell ⟨g, 2, none⟩ v2) ∧ BlockIs (((W.setCell ⟨g, 0, none⟩ v0).setCell ⟨g, 1, none⟩ v1).setCell ⟨g, 2, none⟩ v2) g t #[v0, v1, v2] ∧
    ∀ g' cs, g' ≠ g → BlockIs W g' t cs → BlockIs (((W.setCell ⟨g, 0, none⟩ v0).setCell ⟨g, 1, none⟩ v1).setCell ⟨g, 2, none⟩ v2) g' t cs := by
  refine ⟨(((Below.refl _ _).setCell (p := ⟨g, 0, none⟩) hg _).setCell (p := ⟨g, 1, none⟩) hg _).setCell (p := ⟨g, 2, none⟩) hg _, ?_, fun g' cs hne hk => ((hk.away hne _ _).away hne _ _).away hne _ _⟩
  exact ((h.set 0 v0).set 1 v1).set 2 v2
end
end Go.Proofs.YtjemjdlaoebffaaDoor

end
section
namespace Go.Proofs.YtjemjdlaoebffaaDoor
def putsL : List Oper → (Nat → Value) → Nat → Act → Act
  | [], _, _, a => a
  | o :: r, v, j, a => putsL r v (j + 1) (a.put o.dst (v j))
theorem put_size (a : Act) (d : Option Nat) (u : Value) : (a.put d u).tmps.size = a.tmps.size := by
  cases d <;> simp [Act.put]
theorem put_defers (a : Act) (d : Option Nat) (u : Value) : (a.put d u).defers = a.defers := by
  cases d <;> rfl
theorem put_get (a : Act) (d t : Nat) (u : Value) : (a.put (some d) u).tmps.getD t undef = if d = t ∧ t < a.tmps.size then u else a.tmps.getD t undef := by
  unfold Act.put
  simp only [Array.getD_eq_getD_getElem?, Array.getElem?_setIfInBounds]
  by_cases e : d = t
  · subst e
    by_cases h : d < a.tmps.size
    · simp [h]
    · simp [h]
  · simp [e]
theorem puts_same : ∀ (l : List Oper) (v : Nat → Value) (j : Nat) (a : Act), (putsL l v j a).tmps.size = a.tmps.size ∧ (putsL l v j a).defers = a.defers
  | [], _, _, _ => ⟨rfl, rfl⟩
  | o :: r, v, j, a => by
    have h := puts_same r v (j + 1) (a.put o.dst (v j))
    exact ⟨h.1.trans (put_size _ _ _), h.2.trans (put_defers _ _ _)⟩
theorem puts_low (t : Nat) : ∀ (l : List Oper) (v : Nat → Value) (j : Nat) (a : Act), (∀ o ∈ l, o.dst ≠ some t) → (putsL l v j a).tmps.getD t undef = a.tmps.getD t undef
  | [], _, _, _, _ => rfl
  | o :: r, v, j, a, h => by
    have h1 := puts_low t r v (j + 1) (a.put o.dst (v j)) (fun o' ho' => h o' (List.mem_cons_of_mem _ ho'))
    refine h1.trans ?_
    cases hd : o.dst with
    | none => rfl
    | some d =>
      have := h o List.mem_cons_self
      rw [put_get, if_neg (fun q => this (by rw [hd, q.1]))]
theorem puts_hit (d : Nat) : ∀ (l : List Oper) (v : Nat → Value) (j : Nat) (a : Act) (i : Nat) (o : Oper), l[i]? = some o → o.dst = some d → d < a.tmps.size → (∀ i' o', l[i']? = some o' → o'.dst = some d → i' = i) → (putsL l v j a).tmps.getD d undef = v (j + i)
  | [], _, _, _, _, _, h, _, _, _ => by simp at h
  | o :: r, v, j, a, 0, o', h, hd, hlt, hun => by
    have e : o = o' := by simpa using h
    subst e
    have h1 := puts_low d r v (j + 1) (a.put o.dst (v j)) (fun o' ho' hd' => by
      obtain ⟨i, hi, rfl⟩ := List.getElem_of_mem ho'
      have := hun (i + 1) r[i] (by simp [hi]) hd'
      omega)
    refine h1.trans ?_
    rw [hd, put_get, if_pos ⟨rfl, hlt⟩]
    rfl
  | o :: r, v, j, a, i + 1, o', h, hd, hlt, hun => by
    have h1 := puts_hit d r v (j + 1) (a.put o.dst (v j)) i o' (by simpa using h) hd (by rw [put_size]; exact hlt) (fun i' o'' hi' hd' => by
      have := hun (i' + 1) o'' (by simpa using hi') hd'
      omega)
    refine h1.trans ?_
    congr 1
    omega
section
variable {P : Program} {ops : Array Oper} {Q : Exit → Act → World → Prop}
theorem wp_region_detP {γ : Type} {id : Nat} {tm0 : Array Value} {df : List Deferred} {w : World} (hm : P.follows .mixedOrders = true) (S : γ → Array Bool → World → Prop) (val : γ → Nat → Value) (x0 : γ) (hback : backBB ops = true) (hown : ownDst ops tm0.size = true)
    (h0 : S x0 (Array.replicate ops.size false) w.drew)
    (hdone : ∀ (x : γ) (L : Array Bool) (W : World), (∀ i, i < ops.size → L.getD i true = true) → S x L W → Q .normal (putsL ops.toList (val x) 0 ⟨tm0, df⟩) W)
    (hstep : ∀ (x : γ) (L : Array Bool) (a : Act) (w : World) (i : Nat) (o : Oper), L.size = ops.size → ops[i]? = some o → L.getD i true = false → (∀ j, edgeB ops i j = true → L.getD j true = true) → (∀ j, edgeB ops j i = true → L.getD j true = false) → S x L w → (∀ t, ((List.range ops.size).all fun j => !((ops[j]?).bind (·.dst) == some t)) = true → a.tmps.getD t undef = tm0.getD t undef) →
      (∀ j oj d, edgeB ops i j = true → ops[j]? = some oj → oj.dst = some d → a.tmps.getD d undef = val x j) → Region.wanted o (yielded ops a.tmps) = true ∧ StepA P S val x L i o a w) :
    (Code.region id ops true).wp P Q ⟨tm0, df⟩ w := by
  refine wp_region_detA hm S val x0 hback hown h0 ?_ (fun x L a w i o h1 h2 h3 h4 h5 h6 h7 h8 _ => hstep x L a w i o h1 h2 h3 h4 h5 h6 h7 h8)
  intro x L tm W hall hS hsz hlow hval
  have hp := puts_same ops.toList (val x) 0 ⟨tm0, df⟩
  have key : (⟨tm, df⟩ : Act) = putsL ops.toList (val x) 0 ⟨tm0, df⟩ := by
    cases hb : putsL ops.toList (val x) 0 ⟨tm0, df⟩ with | mk tm' df' => ?_
    rw [hb] at hp
    obtain ⟨hp1, hp2⟩ := hp
    simp only at hp1 hp2
    subst hp2
    have ht : tm = tm' := by
      refine arr_of _ _ (by rw [hsz, hp1]) fun t ht => ?_
      have hg : tm'.getD t undef = (putsL ops.toList (val x) 0 ⟨tm0, df'⟩).tmps.getD t undef := by rw [hb]
      rw [hg]
      by_cases hx : ∃ (j : Nat) (o : Oper), ops[j]? = some o ∧ o.dst = some t
      · obtain ⟨j, o, ho, hd⟩ := hx
        rw [hval j o t ho hd, puts_hit t ops.toList (val x) 0 ⟨tm0, df'⟩ j o (by rw [Array.getElem?_toList]; exact ho) hd (by rw [← hp1]; exact ht) (fun i' o' hi' hd' => by
          rw [Array.getElem?_toList] at hi'
          exact ownDst_inj hown ho hd hi' hd'), Nat.zero_add]
      · rw [hlow t (by
          rw [List.all_eq_true]
          intro j _
          cases ho : ops[j]? with
          | none => rfl
          | some o =>
            have : o.dst ≠ some t := fun hd => hx ⟨j, o, ho, hd⟩
            simpa using this), puts_low t ops.toList (val x) 0 ⟨tm0, df'⟩ (fun o ho hd => by
          obtain ⟨j, hj, rfl⟩ := List.getElem_of_mem ho
          exact hx ⟨j, _, by rw [← Array.getElem?_toList]; exact List.getElem?_eq_getElem hj, hd⟩)]
    rw [ht]
  rw [key]
  exact hdone x L W hall hS
end
end Go.Proofs.YtjemjdlaoebffaaDoor

end
section
namespace Go.Proofs.YtjemjdlaoebffaaDoor
open Go.RowKit
end Go.Proofs.YtjemjdlaoebffaaDoor

end
section
namespace Go.Proofs.YtjemjdlaoebffaaDoor
open Go.RowKit
theorem eql_nil (w : World) (a : Addr) (l c : Nat) : (binOp .eql 23 (.slice (some a) l c) (.slice none 0 0)).run Tryd.prog w = .ok (.bool false) w := by
  simp [binOp, run_equal_slice_nil w 23 3 (some a) l c Tryd.underlying23, Result.andThen]
set_option maxRecDepth 100000 in
theorem clone_some (ad : Addr) (c : Nat) (xs : List Int) (w : World) (hr : Row w (some ad) (ic xs)) (hn : xs.length ≤ 100000) :
    Calls Tryd.prog 107 #[.slice (some ad) xs.length c] w fun e w' => ∃ ad' c', e = .returned (.slice (some ad') xs.length c') ∧ w'.ownsRow w.heap.size 3 1 (.slice (some ad') xs.length c') xs.length (ic xs) ∧ Below w.heap.size w w' := by
  obtain ⟨i0, hi, hz0, hz1, hz2⟩ := info_parts infoI
  have hb0 := (Below.refl w.heap.size w).alloc (Nat.le_refl _) (.cells #[] 3)
  have hown0 : (w.alloc (.cells #[] 3)).ownsRow w.heap.size 3 1 (.slice (some ⟨w.heap.size, 0, none⟩) 0 0) 0 [] := World.ownsRow_made w #[] 0 (Nat.le_refl _) (by unfold maxLen; omega) rfl
  have hsrc := row_src (hr.below hb0)
  have heq := eql_nil w ad xs.length c
  go_enter Tryd.func107, Tryd.ntmps107
  go_wp2_with (at_builtin; refine wpList_append_own _ rfl _ _ 23 rfl w.heap.size 3 i0 (.int .i64 0) 1 8 Tryd.underlying23 hi hz0 hz1 hz2 rfl (by decide) _ _ _ rfl hown0 ad xs.length c (ic xs) rfl (by rw [ic_len]; omega) hsrc (by intro u hu; unfold ic at hu; obtain ⟨x, _, rfl⟩ := List.mem_map.1 hu; rfl) (by unfold maxLen; omega) (by omega) (by simp) ?_; intro v' w3 hown' hgrow hnil)
  go_ret
  rw [Nat.zero_add, List.nil_append] at hown'
  obtain ⟨ad', c', rfl⟩ := not_nil hown' (fun e => by have := (hnil.1 e).1; injection this with h _ _; cases h)
  exact ⟨ad', c', rfl, hown', hb0.grown hgrow (by simp) (fun j hj => (hown0.lt j hj).1)⟩
theorem clone_any (ad : Addr) (c : Nat) (xs : List Int) (w : World) (hr : Row w (some ad) (ic xs)) (hn : xs.length ≤ 100000) :
    Calls Tryd.prog 107 #[.slice (some ad) xs.length c] w fun e w' => ∃ v, e = .returned v ∧ w'.ownsRow w.heap.size 3 1 v xs.length (ic xs) ∧ Below w.heap.size w w' :=
  (clone_some ad c xs w hr hn).mono fun _ _ ⟨_, _, he, ho, hb⟩ => ⟨_, he, ho, hb⟩
end Go.Proofs.YtjemjdlaoebffaaDoor

end
section
namespace Go.Proofs
open Go.Shelf
end Go.Proofs
namespace Go.Proofs.YtjemjdlaoebffaaDoor
open Go.RowKit
/-- Cells written one after the other. -/
def setsA (cs : Array Value) : Nat → List Value → Array Value
  | _, [] => cs
  | o, v :: r => setsA (cs.setIfInBounds o v) (o + 1) r
theorem setsA_size : ∀ (vs : List Value) (o : Nat) (cs : Array Value), (setsA cs o vs).size = cs.size
  | [], _, _ => rfl
  | v :: r, o, cs => by unfold setsA; rw [setsA_size r]; simp
theorem BlockIs.sets {g : Nat} {t : TypeId} : ∀ (vs : List Value) (o : Nat) {w : World} {cs : Array Value}, BlockIs w g t cs → BlockIs (w.setCells g o vs) g t (setsA cs o vs)
  | [], _, _, _, h => h
  | v :: r, o, _, _, h => BlockIs.sets r (o + 1) (h.set o v)
theorem Below.sets {B g : Nat} (hg : B ≤ g) : ∀ (vs : List Value) (o : Nat) {a w : World}, Below B a w → Below B a (w.setCells g o vs)
  | [], _, _, _, h => h
  | v :: r, o, _, _, h => Below.sets hg r (o + 1) (h.setCell (p := ⟨g, o, none⟩) hg v)
theorem setsA_at : ∀ (vs : List Value) (o : Nat) (cs : Array Value) (j : Nat), o + vs.length ≤ cs.size → (setsA cs o vs)[j]? = if o ≤ j ∧ j < o + vs.length then vs[j - o]? else cs[j]?
  | [], o, cs, j, _ => by rw [if_neg (by simp)]; rfl
  | v :: r, o, cs, j, h => by
    simp only [List.length_cons] at h ⊢
    unfold setsA
    rw [setsA_at r (o + 1) _ j (by simp; omega)]
    by_cases h1 : o + 1 ≤ j ∧ j < o + 1 + r.length
    · rw [if_pos h1, if_pos (by omega), show j - o = (j - (o + 1)) + 1 by omega]; rfl
    · rw [if_neg h1]
      by_cases h2 : j = o
      · subst h2; rw [if_pos (by omega), Array.getElem?_setIfInBounds, if_pos rfl, if_pos (by omega)]; simp
      · rw [if_neg (by omega), Array.getElem?_setIfInBounds, if_neg (by omega)]
theorem ins_at {α : Type} (R : List α) (x : α) (t j : Nat) (h : t ≤ R.length) : (R.take t ++ x :: R.drop t)[j]? = if j < t then R[j]? else if j = t then some x else R[j - 1]? := by
  have hl : (R.take t).length = t := by simp; omega
  by_cases h1 : j < t
  · rw [if_pos h1, List.getElem?_append_left (by omega), List.getElem?_take, if_pos h1]
  · rw [if_neg h1, List.getElem?_append_right (by omega), hl]
    by_cases h2 : j = t
    · subst h2; simp
    · rw [if_neg h2, show j - t = (j - t - 1) + 1 by omega, List.getElem?_cons_succ, List.getElem?_drop]
      congr 1; omega
/-- What is in the cells after the shift and the write. -/
theorem shift_take {cur : Array Value} {R : List Value} {x : Value} {t : Nat} (hs : R.length < cur.size) (hR : ∀ j, j < R.length → cur[j]? = R[j]?) (ht : t < R.length) :
    (setsA (setsA cur (t + 1) (R.drop t)) t [x]).toList.take (R.length + 1) = R.take t ++ x :: R.drop t := by
  apply List.ext_getElem?
  intro j
  rw [ins_at R x t j (by omega), List.getElem?_take]
  by_cases hj : j < R.length + 1
  · rw [if_pos hj, Array.getElem?_toList, setsA_at _ _ _ _ (by rw [setsA_size]; simp; omega), setsA_at _ _ _ _ (by simp; omega)]
    by_cases h1 : j < t
    · rw [if_pos h1, if_neg (by omega), if_neg (by omega), hR j (by omega)]
    · rw [if_neg h1]
      by_cases h2 : j = t
      · subst h2; simp
      · rw [if_neg h2, if_neg (by simp; omega), if_pos (by simp; omega), List.getElem?_drop]
        congr 1; omega
  · rw [if_neg hj, if_neg (by omega), if_neg (by omega), List.getElem?_eq_none (by omega)]
theorem end_take {cur : Array Value} {R : List Value} {x : Value} (hs : R.length < cur.size) (hR : ∀ j, j < R.length → cur[j]? = R[j]?) :
    (setsA cur R.length [x]).toList.take (R.length + 1) = R.take R.length ++ x :: R.drop R.length := by
  apply List.ext_getElem?
  intro j
  rw [ins_at R x R.length j (by omega), List.getElem?_take]
  by_cases hj : j < R.length + 1
  · rw [if_pos hj, Array.getElem?_toList, setsA_at _ _ _ _ (by simp; omega)]
    by_cases h1 : j < R.length
    · rw [if_pos h1, if_neg (by omega), hR j h1]
    · have h2 : j = R.length := by omega
      subst h2; simp
  · rw [if_neg hj, if_neg (by omega), if_neg (by omega), List.getElem?_eq_none (by omega)]
/-- One place left out. -/
def restI (o : List Int) (f : Nat) : List Int := o.take f ++ o.drop (f + 1)
def movedI (o : List Int) (f t : Nat) : List Int := (restI o f).take t ++ o.getD f 0 :: (restI o f).drop t
theorem restI_len {o : List Int} {f : Nat} (h : f < o.length) : (restI o f).length + 1 = o.length := by unfold restI; simp; omega
theorem movedI_len {o : List Int} {f t : Nat} (h : f < o.length) (ht : t < o.length) : (movedI o f t).length = o.length := by
  have := restI_len h
  unfold movedI; simp; omega
def insB (o : List Int) (f t : Int) : Bool := ordB o.length o && (inB f 0 (o.length - 1) && inB t 0 (o.length - 1))
def insR (o : List Int) (f t : Int) : List Int × Bool := if insB o f t then (movedI o f.toNat t.toNat, true) else ([], false)
theorem insR_len (o : List Int) (f t : Int) (hm : o.length ≤ 10000000) : (insR o f t).1.length ≤ 10000000 := by
  unfold insR
  cases h : insB o f t
  · simp
  · unfold insB at h
    simp only [Bool.and_eq_true] at h
    have h1 := inB_out h.2.1
    have h2 := inB_out h.2.2
    simp only [if_true]
    rw [movedI_len (by omega) (by omega)]; exact hm
set_option maxRecDepth 100000 in
/-- slices.Delete of one, from cells of its own. -/
theorem delete_one {w : World} {g c : Nat} {cur : Array Value} {o : List Int} {f : Nat} (hB : BlockIs w g 3 cur) (hs : cur.size = c) (hc : o.length ≤ c) (hm : c ≤ maxLen) (ht : cur.toList.take o.length = ic o) (hf : f < o.length) :
    Calls Tryd.prog 163 #[.slice (some ⟨g, 0, none⟩) o.length c, .int .i64 (f : Int), .int .i64 ((f : Int) + 1)] w fun e w' => e = .returned (.slice (some ⟨g, 0, none⟩) (restI o f).length c) ∧ ∃ cur' : Array Value, BlockIs w' g 3 cur' ∧ cur'.size = c ∧ (∀ j, j < (restI o f).length → cur'[j]? = (ic (restI o f))[j]?) ∧ ∀ B, B ≤ g → B ≤ w.heap.size → Below B w w' := by
  have hcell : ∀ j, j < o.length → w.cell? ⟨g, 0 + j, none⟩ = some (.int .i64 (o.getD j 0)) := fun j hj => by
    rw [hB.cell, Nat.zero_add, ← Array.getElem?_toList, ← List.getElem?_take_of_lt hj, ht]
    unfold ic; simp [hj]
  have H := Tryd.slices_Delete_int_cells g 0 o.length c f (f + 1) o w (Nat.le_refl _) hc hm (by omega) (by omega) hcell (fun j _ => hB.frozen _)
  rw [show ((f + 1 : Nat) : Int) = (f : Int) + 1 from rfl] at H
  refine H.mono ?_
  rintro e w' ⟨rfl, q, rfl⟩
  have hrl := restI_len hf
  refine ⟨by rw [show o.length - (f + 1 - f) = (restI o f).length by omega], _, (hB.drewN q).sets _ 0, by rw [setsA_size]; exact hs, fun j hj => ?_, fun B h1 h2 => Below.sets h1 _ 0 (show Below B w (w.drewN q) from have h := Below.refl B w; ⟨h.os, h.tape, h.output, h.size, h.block⟩)⟩
  have hls : (List.map (Value.int .i64) ((o.take o.length).take f ++ (o.take o.length).drop (f + 1) ++ List.replicate (f + 1 - f) 0)) = ic (restI o f) ++ [.int .i64 0] := by
    rw [List.take_length, show f + 1 - f = 1 by omega]
    unfold ic restI; simp
  rw [hls, setsA_at _ _ _ _ (by simp [ic_len]; omega), if_pos (by simp [ic_len]; omega), Nat.sub_zero, List.getElem?_append_left (by rw [ic_len]; exact hj)]
end Go.Proofs.YtjemjdlaoebffaaDoor

end
section
namespace Go.Proofs.YtjemjdlaoebffaaDoor
open Go.RowKit
theorem within_canS {n : Nat} (hn : n ≤ 8) (T : Nat → Nat → Bool) (ends : List Int) (now : Int) (j : Nat) : withinB (befN n T j) (bitsN n (doneP ends now)) = canS n T ends now j := by
  rw [Bool.eq_iff_iff, within_iff (bef_lt hn T j)]
  unfold canS
  rw [List.all_eq_true]
  constructor
  · intro h k hk
    rw [List.mem_range] at hk
    have := h k
    rw [bef_bit, bits_bit, decide_eq_true hk, Bool.true_and, Bool.true_and] at this
    cases hT : T k j
    · rfl
    · have h2 := this hT
      unfold doneP at h2
      rw [h2]; rfl
  · intro h k hk
    rw [bef_bit, Bool.and_eq_true, decide_eq_true_eq] at hk
    have := h k (List.mem_range.2 hk.1)
    rw [hk.2, Bool.not_true, Bool.false_or] at this
    rw [bits_bit, decide_eq_true hk.1, Bool.true_and]
    exact this
theorem pick_at {n : Nat} {T : Nat → Nat → Bool} {ord : List Nat} {ends : List Int} {now : Int} {p : Nat} (hp : p < (leftL ord ends).length) (h1 : canS n T ends now (leftL ord ends)[p] = true) (h2 : ∀ i (hi : i < (leftL ord ends).length), i < p → canS n T ends now (leftL ord ends)[i] = false) : pickJ n T ord ends now = some (leftL ord ends)[p] := by
  unfold pickJ
  rw [List.find?_eq_some_iff_getElem]
  exact ⟨h1, p, hp, rfl, fun i hi => by rw [h2 i (by omega) hi]; rfl⟩
theorem pick_no {n : Nat} {T : Nat → Nat → Bool} {ord : List Nat} {ends : List Int} {now : Int} (h2 : ∀ i (hi : i < (leftL ord ends).length), canS n T ends now (leftL ord ends)[i] = false) : pickJ n T ord ends now = none := by
  unfold pickJ
  rw [List.find?_eq_none]
  intro x hx
  obtain ⟨i, hi, rfl⟩ := List.getElem_of_mem hx
  rw [h2 i hi]; simp
theorem can_enters (args : Array Value) (w : World) : (callFunc 161 args).run Tryd.prog w = .ok (.enter 161 args) w :=
  enters_of Tryd.func161 (by kernel_rfl) rfl args w
set_option maxRecDepth 100000 in
set_option maxHeartbeats 2000000 in
theorem indexCan_any (G b0 b1 dn : Nat) (B : Nat → Nat) (hB8 : ∀ j, B j < 256) (A : Option Addr) (c : Nat) (xs : List Nat) (w : World) (hr : Row w A (ic (natI xs))) (hx : ∀ x ∈ xs, x < 8) (h0 : BlockIs w b0 202 #[.pointer (some ⟨G, 0, none⟩)]) (h1 : BlockIs w b1 69 #[.int .u64 (dn : Int)])
    (hGl : G < w.heap.size) (hG : ∀ j, j < 8 → w.cell? ⟨G, 2 + j, none⟩ = some (.int .u64 (B j : Int))) (hn : xs.length ≤ 1000) :
    Calls Tryd.prog 162 #[.slice A xs.length c, .func (.func 161) #[] #[.pointer (some ⟨b0, 0, none⟩), .pointer (some ⟨b1, 0, none⟩)]] w fun e w' => ((∃ k : Nat, e = .returned (.int .i64 (k : Int)) ∧ ∃ h : k < xs.length, withinB (B xs[k]) dn = true ∧ ∀ i (hi : i < xs.length), i < k → withinB (B xs[i]) dn = false) ∨ (e = .returned (.int .i64 (-1)) ∧ ∀ i (hi : i < xs.length), withinB (B xs[i]) dn = false)) ∧ Below w.heap.size w w' := by
  have HEN := Lib.hid can_enters
  have HCAN := Lib.hid (fun j (hj : j < 8) W (hb : Below w.heap.size w W) => canStart_any G b0 b1 (B j) dn j (hB8 j) W ((h0.below hb).cell 0) ((h1.below hb).cell 0) hj ((hb.cell hGl).trans (hG j hj)))
  have HR := Lib.hid hr
  have HX := Lib.hid hx
  clear h0 h1 hG hr hx
  go_enter Tryd.func162, Tryd.ntmps162
  go_wp2
  go_loopw [8] (fun v wr => ∃ k : Nat, k ≤ xs.length ∧ v = .int .i64 (k : Int) ∧ Hid (∀ i (hi : i < xs.length), i < k → withinB (B xs[i]) dn = false) ∧ Hid (Below w.heap.size w wr)) (fun v _ => xs.length - (intOf v).toNat)
  case atStart => exact ⟨0, Nat.zero_le _, rfl, fun _ _ h => absurd h (by omega), Below.refl _ _⟩
  case round =>
    obtain ⟨k, hk, rfl, hA, hb⟩ := hrel
    by_cases hlt : k < xs.length
    · obtain ⟨ad, hA', hc⟩ := (HR.out.below hb.out).nat hlt
      subst hA'
      have hk0 : (0 : Int) ≤ k := by omega
      have hk1 : (k : Int) < xs.length := by omega
      have HC := Lib.hid (HCAN.out xs[k] (HX.out _ (List.getElem_mem hlt)) wr hb.out)
      have hen := HEN.out #[.int .i64 ((xs[k] : Nat) : Int), .pointer (some ⟨b0, 0, none⟩), .pointer (some ⟨b1, 0, none⟩)] wr
      have HT : Hid (withinB (B xs[k]) dn = false → ∀ i (hi : i < xs.length), i < k + 1 → withinB (B xs[i]) dn = false) := fun hh i hi h => by
        by_cases e : i = k
        · subst e; exact hh
        · exact hA.out i hi (by omega)
      have HF : Hid (withinB (B xs[k]) dn = true → ∃ h : k < xs.length, withinB (B xs[k]) dn = true ∧ ∀ i (hi : i < xs.length), i < k → withinB (B xs[i]) dn = false) := fun hh => ⟨hlt, hh, hA.out⟩
      clear hA
      cases hh : withinB (B xs[k]) dn
      · have HY := Lib.hid (HT.out hh)
        rw [hh] at HC
        clear hh HT HF
        obtain ⟨x, hxk⟩ : ∃ x, xs[k] = x := ⟨_, rfl⟩
        rw [hxk] at HC hen hc
        clear hxk
        go_wp2_with fail
        refine HC.out.mono ?_
        rintro e w1 ⟨rfl, hb1⟩
        go_wp2
        go_roundw
        case rel => exact ⟨k + 1, by omega, by go_num, HY.out, hb.out.trans (hb1.mono hb.out.size)⟩
        case measure => simp [intOf]; omega
      · have HY := Lib.hid (HF.out hh)
        rw [hh] at HC
        clear hh HT HF
        obtain ⟨x, hxk⟩ : ∃ x, xs[k] = x := ⟨_, rfl⟩
        rw [hxk] at HC hen hc
        clear hxk
        go_wp2_with fail
        refine HC.out.mono ?_
        rintro e w1 ⟨rfl, hb1⟩
        go_wp2
        go_ret
        exact ⟨.inl ⟨k, rfl, HY.out⟩, hb.out.trans (hb1.mono hb.out.size)⟩
    · obtain rfl : k = xs.length := by omega
      go_wp2
      go_ret
      exact ⟨.inr ⟨rfl, fun i hi => hA.out i hi hi⟩, hb.out⟩
theorem sets_frame (g : Nat) : ∀ (vs : List Value) (o : Nat) (w : World), (w.setCells g o vs).heap.size = w.heap.size ∧ ∀ k, k ≠ g → (w.setCells g o vs).heap[k]? = w.heap[k]?
  | [], _, _ => ⟨rfl, fun _ _ => rfl⟩
  | v :: r, o, w => by
    have h := sets_frame g r (o + 1) (w.setCell ⟨g, o, none⟩ v)
    refine ⟨h.1.trans (by simp [World.setCell]), fun k hk => (h.2 k hk).trans (Below.heap_setCell w ⟨g, o, none⟩ v k hk)⟩
set_option maxRecDepth 100000 in
theorem delete_fr {w : World} {g c : Nat} {cur : Array Value} {o : List Int} {f : Nat} (hB : BlockIs w g 3 cur) (hs : cur.size = c) (hc : o.length ≤ c) (hm : c ≤ maxLen) (ht : ∀ j, j < o.length → cur[j]? = (ic o)[j]?) (hf : f < o.length) :
    Calls Tryd.prog 163 #[.slice (some ⟨g, 0, none⟩) o.length c, .int .i64 (f : Int), .int .i64 ((f : Int) + 1)] w fun e w' => e = .returned (.slice (some ⟨g, 0, none⟩) (o.length - 1) c) ∧ (∃ cur' : Array Value, BlockIs w' g 3 cur' ∧ cur'.size = c ∧ ∀ j, j < (o.eraseIdx f).length → cur'[j]? = (ic (o.eraseIdx f))[j]?) ∧ w'.heap.size = w.heap.size ∧ (∀ k, k ≠ g → w'.heap[k]? = w.heap[k]?) ∧ ∀ B, B ≤ g → B ≤ w.heap.size → Below B w w' := by
  have hcell : ∀ j, j < o.length → w.cell? ⟨g, 0 + j, none⟩ = some (.int .i64 (o.getD j 0)) := fun j hj => by
    rw [hB.cell, Nat.zero_add, ht j hj]
    unfold ic; simp [hj]
  have H := Tryd.slices_Delete_int_cells g 0 o.length c f (f + 1) o w (Nat.le_refl _) hc hm (by omega) (by omega) hcell (fun j _ => hB.frozen _)
  rw [show ((f + 1 : Nat) : Int) = (f : Int) + 1 from rfl] at H
  refine H.mono ?_
  rintro e w' ⟨rfl, q, rfl⟩
  have hel : (o.eraseIdx f).length = o.length - 1 := List.length_eraseIdx_of_lt hf
  have hfr := sets_frame g (List.map (Value.int .i64) ((o.take o.length).take f ++ (o.take o.length).drop (f + 1) ++ List.replicate (f + 1 - f) 0)) 0 (w.drewN q)
  refine ⟨by rw [show o.length - (f + 1 - f) = o.length - 1 by omega], ⟨_, (hB.drewN q).sets _ 0, by rw [setsA_size]; exact hs, fun j hj => ?_⟩, hfr.1, hfr.2, fun B h1 h2 => Below.sets h1 _ 0 (show Below B w (w.drewN q) from have h := Below.refl B w; ⟨h.os, h.tape, h.output, h.size, h.block⟩)⟩
  have hls : (List.map (Value.int .i64) ((o.take o.length).take f ++ (o.take o.length).drop (f + 1) ++ List.replicate (f + 1 - f) 0)) = ic (o.eraseIdx f) ++ [.int .i64 0] := by
    rw [List.take_length, show f + 1 - f = 1 by omega, List.eraseIdx_eq_take_drop_succ]
    unfold ic; simp
  rw [hls, setsA_at _ _ _ _ (by rw [List.length_append, ic_len]; simp; omega), if_pos ⟨Nat.zero_le _, by rw [List.length_append, ic_len]; simp; omega⟩, Nat.sub_zero, List.getElem?_append_left (by rw [ic_len]; exact hj)]
/-- Where the parts of a maker lie. -/
structure Lm where
  G : Nat
  gL : Nat
  gF : Nat
  gE : Nat
  gP : Nat
  cL : Nat
structure Lm.Ok (a : Lm) (H : Nat) : Prop where
  hG : H ≤ a.G
  hL : H ≤ a.gL
  hF : H ≤ a.gF
  hE : H ≤ a.gE
  hP : H ≤ a.gP
  d1 : a.G ≠ a.gL
  d2 : a.G ≠ a.gF
  d3 : a.G ≠ a.gE
  d4 : a.G ≠ a.gP
  d5 : a.gL ≠ a.gF
  d6 : a.gL ≠ a.gE
  d7 : a.gL ≠ a.gP
  d8 : a.gF ≠ a.gE
  d9 : a.gF ≠ a.gP
  d0 : a.gE ≠ a.gP
  hc : a.cL ≤ maxLen
def lmC (a : Lm) (J : Value) (n : Nat) (B : Nat → Nat) (m l : Nat) : Array Value := #[J, .int .i64 (n : Int), .int .u64 (B 0 : Int), .int .u64 (B 1 : Int), .int .u64 (B 2 : Int), .int .u64 (B 3 : Int), .int .u64 (B 4 : Int), .int .u64 (B 5 : Int), .int .u64 (B 6 : Int), .int .u64 (B 7 : Int), .slice (some ⟨a.gL, 0, none⟩) l a.cL, .slice (some ⟨a.gF, 0, none⟩) m m, .slice (some ⟨a.gE, 0, none⟩) n n, .slice (some ⟨a.gP, 0, none⟩) n n]
theorem lmC_set (a : Lm) (J : Value) (n : Nat) (B : Nat → Nat) (m l l' : Nat) : (lmC a J n B m l).setIfInBounds 10 (.slice (some ⟨a.gL, 0, none⟩) l' a.cL) = lmC a J n B m l' := rfl
theorem lmC_bef (a : Lm) (J : Value) (n : Nat) (B : Nat → Nat) (m l : Nat) {j : Nat} (h : j < 8) : (lmC a J n B m l)[2 + j]? = some (.int .u64 (B j : Int)) := by
  rcases (by omega : j = 0 ∨ j = 1 ∨ j = 2 ∨ j = 3 ∨ j = 4 ∨ j = 5 ∨ j = 6 ∨ j = 7) with rfl | rfl | rfl | rfl | rfl | rfl | rfl | rfl <;> rfl
def LmW (a : Lm) (J : Value) (n : Nat) (B : Nat → Nat) (m l : Nat) (left : List Nat) (s : LsS) (w : World) : Prop :=
  BlockIs w a.G 150 (lmC a J n B m l) ∧ (∃ cur : Array Value, BlockIs w a.gL 3 cur ∧ cur.size = a.cL ∧ left.length ≤ a.cL ∧ ∀ j, j < left.length → cur[j]? = (ic (natI left))[j]?) ∧ BlockIs w a.gF 3 (ic s.free).toArray ∧ BlockIs w a.gE 3 (ic s.ends).toArray ∧ BlockIs w a.gP 96 (spc s.plan).toArray
section
variable {a : Lm} {J : Value} {n m l : Nat} {B : Nat → Nat} {left : List Nat} {s : LsS} {w w' : World}
theorem LmW.below (h : LmW a J n B m l left s w) (hb : Below w.heap.size w w') : LmW a J n B m l left s w' := by
  obtain ⟨h1, ⟨cur, h2, h3⟩, h4, h5, h6⟩ := h
  exact ⟨h1.below hb, ⟨cur, h2.below hb, h3⟩, h4.below hb, h5.below hb, h6.below hb⟩
theorem LmW.row (h : LmW a J n B m l left s w) : Row w (some ⟨a.gL, 0, none⟩) (ic (natI left)) := fun hn => by
  obtain ⟨cur, h2, h3, _, h4⟩ := h.2.1
  refine ⟨_, rfl, h2.lt, fun j u hu => ?_⟩
  have hj : j < left.length := by
    have := (List.getElem?_eq_some_iff.1 hu).1
    rw [ic_len] at this
    simpa using this
  have h5 := (h2.cell j).trans ((h4 j hj).trans hu)
  unfold Addr.add
  by_cases e : j = 0
  · subst e; rw [if_pos rfl]; exact h5
  · rw [if_neg e]; simp only [Nat.zero_add]; exact h5
/-- The header of the jobs that are left is told anew. -/
theorem LmW.head {H : Nat} (h : LmW a J n B m l left s w) (ha : a.Ok H) (l' : Nat) : LmW a J n B m l' left s (w.setCell ⟨a.G, 10, none⟩ (.slice (some ⟨a.gL, 0, none⟩) l' a.cL)) := by
  obtain ⟨h1, ⟨cur, h2, h3⟩, h4, h5, h6⟩ := h
  have h1' := h1.set 10 (.slice (some ⟨a.gL, 0, none⟩) l' a.cL)
  rw [lmC_set] at h1'
  exact ⟨h1', ⟨cur, h2.away ha.d1.symm 10 _, h3⟩, h4.away ha.d2.symm 10 _, h5.away ha.d3.symm 10 _, h6.away ha.d4.symm 10 _⟩
theorem LmW.planned {H : Nat} (h : LmW a J n B m l left s w) (ha : a.Ok H) (j : Nat) (x : Sp) (hj : j < s.plan.length) : LmW a J n B m l left ⟨s.free, s.ends, s.plan.set j x⟩ (((w.setCell ⟨a.gP, j * 3, none⟩ (.int .i64 x.j)).setCell ⟨a.gP, j * 3 + 1, none⟩ (.int .i64 x.f)).setCell ⟨a.gP, j * 3 + 2, none⟩ (.int .i64 x.t)) := by
  obtain ⟨h1, ⟨cur, h2, h3⟩, h4, h5, h6⟩ := h
  have h6' := h6.set3 (j * 3) x
  rw [spc_set s.plan j x hj] at h6'
  exact ⟨((h1.away ha.d4 _ _).away ha.d4 _ _).away ha.d4 _ _, ⟨cur, ((h2.away ha.d7 _ _).away ha.d7 _ _).away ha.d7 _ _, h3⟩, ((h4.away ha.d9 _ _).away ha.d9 _ _).away ha.d9 _ _, ((h5.away ha.d0 _ _).away ha.d0 _ _).away ha.d0 _ _, h6'⟩
theorem LmW.ended {H : Nat} (h : LmW a J n B m l left s w) (ha : a.Ok H) (j : Nat) (x : Int) : LmW a J n B m l left ⟨s.free, s.ends.set j x, s.plan⟩ (w.setCell ⟨a.gE, j, none⟩ (.int .i64 x)) := by
  obtain ⟨h1, ⟨cur, h2, h3⟩, h4, h5, h6⟩ := h
  have h5' := h5.set j (.int .i64 x)
  rw [ic_set] at h5'
  exact ⟨h1.away ha.d3 _ _, ⟨cur, h2.away ha.d6 _ _, h3⟩, h4.away ha.d8 _ _, h5', h6.away ha.d0.symm _ _⟩
theorem LmW.freed {H : Nat} (h : LmW a J n B m l left s w) (ha : a.Ok H) (k : Nat) (x : Int) : LmW a J n B m l left ⟨s.free.set k x, s.ends, s.plan⟩ (w.setCell ⟨a.gF, k, none⟩ (.int .i64 x)) := by
  obtain ⟨h1, ⟨cur, h2, h3⟩, h4, h5, h6⟩ := h
  have h4' := h4.set k (.int .i64 x)
  rw [ic_set] at h4'
  exact ⟨h1.away ha.d2 _ _, ⟨cur, h2.away ha.d5 _ _, h3⟩, h4', h5.away ha.d8.symm _ _, h6.away ha.d9.symm _ _⟩
end

/-- The maker's state, and the two variables of its method. -/
def StW (a : Lm) (J : Value) (n : Nat) (B : Nat → Nat) (m : Nat) (w0 : World) (b0 b1 dn hl : Nat) (lf : List Nat) (q : LsS) (W : World) : Prop := LmW a J n B m hl lf q W ∧ Below w0.heap.size w0 W ∧ BlockIs W b0 202 #[.pointer (some ⟨a.G, 0, none⟩)] ∧ BlockIs W b1 69 #[.int .u64 (dn : Int)]
theorem rep_getD (n i : Nat) (h : i < n) : (Array.replicate n false).getD i true = false := by simp [Array.getD_eq_getD_getElem?, h]
theorem nat_erase : ∀ (l : List Nat) (p : Nat), (natI l).eraseIdx p = natI (l.eraseIdx p)
  | [], _ => by simp
  | _ :: _, 0 => rfl
  | a :: l, p + 1 => by
    show Int.ofNat a :: (natI l).eraseIdx p = Int.ofNat a :: natI (l.eraseIdx p)
    rw [nat_erase l p]
theorem ptr_ne {w : World} {g b : Nat} {cs ds : Array Value} (h : BlockIs w b 202 ds) (hg : BlockIs w g 3 cs) : b ≠ g := type_ne h hg (by decide)
theorem setb_ne {w : World} {g b : Nat} {cs ds : Array Value} (h : BlockIs w b 69 ds) (hg : BlockIs w g 3 cs) : b ≠ g := type_ne h hg (by decide)
theorem ptr_neG {w : World} {g b : Nat} {cs ds : Array Value} (h : BlockIs w b 202 ds) (hg : BlockIs w g 150 cs) : b ≠ g := type_ne h hg (by decide)
theorem setb_neG {w : World} {g b : Nat} {cs ds : Array Value} (h : BlockIs w b 69 ds) (hg : BlockIs w g 150 cs) : b ≠ g := type_ne h hg (by decide)
theorem ptr_neP {w : World} {g b : Nat} {cs ds : Array Value} (h : BlockIs w b 202 ds) (hg : BlockIs w g 96 cs) : b ≠ g := type_ne h hg (by decide)
theorem setb_neP {w : World} {g b : Nat} {cs ds : Array Value} (h : BlockIs w b 69 ds) (hg : BlockIs w g 96 cs) : b ≠ g := type_ne h hg (by decide)
theorem natAt0 {w : World} {g : Nat} {xs : List Nat} (h : Row w (some ⟨g, 0, none⟩) (ic (natI xs))) {k : Nat} (hk : k < xs.length) : w.cell? ⟨g, k, none⟩ = some (.int .i64 ((xs[k] : Nat) : Int)) := by
  have := intAt0 h (k := k) (by simpa using hk)
  rw [this]; simp
set_option maxRecDepth 100000 in
set_option maxHeartbeats 8000000 in
theorem start_any (a : Lm) (A : Option Addr) (c : Nat) (js : List J) (T : Nat → Nat → Bool) (ord : List Nat) (mm : Nat) (now : Int) (s : LsS) (w0 w : World) (ha : a.Ok w0.heap.size) (hr : Row w0 A (jc js)) (hok : ∀ j ∈ js, okJ j = true) (h8 : js.length ≤ 8) (hm : 1 ≤ mm ∧ mm ≤ 4) (hol : ord.length = js.length) (hnd : ord.Nodup) (hord : ∀ j ∈ ord, j < js.length) (hO : OkL js mm now s) (hb : Below w0.heap.size w0 w)
    (hw : LmW a (.slice A js.length c) js.length (befN js.length T) mm (leftL ord s.ends).length (leftL ord s.ends) s w) :
    Calls Tryd.prog 110 #[.pointer (some ⟨a.G, 0, none⟩), .int .i64 now] w fun e w' => e = .returned (.tuple #[]) ∧ LmW a (.slice A js.length c) js.length (befN js.length T) mm (leftL ord (startTo js T ord now s mm).ends).length (leftL ord (startTo js T ord now s mm).ends) (startTo js T ord now s mm) w' ∧ Below w0.heap.size w0 w' := by
  have hs0 := hb.size
  have hn0 := hO.n0
  have hn1 := (hO.bd hok h8).1
  have hb1 := (Below.refl w.heap.size w).alloc (Nat.le_refl _) (.cells #[.pointer (some ⟨a.G, 0, none⟩)] 202)
  have hw1 := hw.below hb1
  have hB1 := BlockIs.new w 202 #[.pointer (some ⟨a.G, 0, none⟩)]
  have hbw1 := hb.trans (hb1.mono hb.size)
  have hs1 := hb1.size
  have hD := done_any a.G a.gE js.length s.ends now _ (by rw [hw1.1.cell, hO.le]; rfl) (rowOf hw1.2.2.2.1) (by rw [hO.le]; exact h8)
  have HWC := Lib.hid (within_canS h8 T s.ends now)
  rw [hO.le] at hD
  have hdl : bitsN js.length (doneP s.ends now) < 256 := bits_lt h8 _
  obtain ⟨dn, hdn⟩ : ∃ dn, bitsN js.length (doneP s.ends now) = dn := ⟨_, rfl⟩
  rw [hdn] at hD HWC hdl
  have HD := Lib.hid hD
  have HW1 := Lib.hid hw1
  have HB1 := Lib.hid hB1
  have HBW1 := Lib.hid hbw1
  have HA := Lib.hid ha
  have HR := Lib.hid hr
  have HOK := Lib.hid hok
  have HND := Lib.hid hnd
  have HOL := Lib.hid hol
  have HORD := Lib.hid hord
  have HO := Lib.hid hO
  have HBEF : Hid (∀ j, befN js.length T j < 256) := fun j => bef_lt h8 T j
  clear hol hD hw1 hB1 hbw1 hb1 ha hr hok hnd hord hO hdn hw hb
  go_enter Tryd.func110, Tryd.ntmps110
  go_wp2_with fail
  refine HD.out.mono ?_
  rintro e w2 ⟨rfl, hb2⟩
  have hb3 := hb2.alloc hb2.size (.cells #[.int .u64 (dn : Int)] 69)
  have hW3 := HW1.out.below hb3
  have hB3 := HB1.out.below hb3
  have hD3 := BlockIs.new w2 69 #[.int .u64 (dn : Int)]
  have hbw3 := HBW1.out.trans (hb3.mono HBW1.out.size)
  have hc0 := hB3.cell 0
  have hc11 := hW3.1.cell 11
  simp only [lmC, List.getElem?_toArray, List.getElem?_cons_zero, List.getElem?_cons_succ] at hc0 hc11
  obtain ⟨b0, hb0⟩ : ∃ b0, w.heap.size = b0 := ⟨_, rfl⟩
  obtain ⟨b1, hb1⟩ : ∃ b1, w2.heap.size = b1 := ⟨_, rfl⟩
  have HS3 : Hid (StW a (.slice A js.length c) js.length (befN js.length T) mm w0 b0 b1 dn (leftL ord s.ends).length (leftL ord s.ends) s (w2.alloc (.cells #[.int .u64 (dn : Int)] 69))) := ⟨hW3, hbw3, hb0 ▸ hB3, hb1 ▸ hD3⟩
  have hd0 : w0.heap.size ≤ b0 := by omega
  clear hb3 hW3 hB3 hD3 hbw3 HW1 HB1 HBW1 HD hb2
  rw [hb0] at hc0
  rw [hb0]
  go_wp2
  clear hc0 hc11
  go_loopw [19] (fun v wr => ∃ k : Nat, k ≤ mm ∧ v = .int .i64 (k : Int) ∧ Hid (StW a (.slice A js.length c) js.length (befN js.length T) mm w0 b0 b1 dn (leftL ord (startTo js T ord now s k).ends).length (leftL ord (startTo js T ord now s k).ends) (startTo js T ord now s k) wr)) (fun v _ => mm - (intOf v).toNat)
  case atStart => exact ⟨0, Nat.zero_le _, rfl, HS3.out⟩
  case round =>
    obtain ⟨k, hk, rfl, hS⟩ := hrel
    clear HS3
    by_cases hlt : k < mm
    · have HOq := Lib.hid (HO.out.start (T := T) HOK.out h8 HORD.out k (by omega))
      have HST := Lib.hid (startTo_succ js T ord now s k)
      have HSTK : Hid (pickJ js.length T ord (startTo js T ord now s k).ends now = none → startTo js T ord now s mm = startTo js T ord now s k) := stuck_all (by omega)
      have HWC2 : Hid (∀ j, withinB (befN js.length T j) dn = canS js.length T (startTo js T ord now s k).ends now j) := fun j => (HWC.out j).trans (canS_congr (fun i => (done_start HO.out HOK.out h8 HORD.out i k (by omega)).symm) j)
      generalize startTo js T ord now s k = q at *
      obtain ⟨hW, hbW, h0W, h1W⟩ := hS.out
      have hcF := hW.2.2.1.int (k := k) (by rw [HOq.out.lf]; exact hlt)
      have hgd : q.free.getD k 0 = q.free[k]'(by rw [HOq.out.lf]; exact hlt) := getD_at q.free 0 (by rw [HOq.out.lf]; exact hlt)
      have HLATE : Hid (¬ q.free.getD k 0 ≤ now → stepL js T ord now q k = q) := step_late
      have HSOME : Hid (∀ j, q.free.getD k 0 ≤ now → pickJ js.length T ord q.ends now = some j → stepL js T ord now q k = assignL js q now k j) := fun j => step_some
      rw [hgd] at HLATE HSOME
      clear hgd
      generalize q.free[k]'(by rw [HOq.out.lf]; exact hlt) = fk at *
      have hk0 : (0 : Int) ≤ k := by omega
      have hk1 : (k : Int) < mm := by omega
      have HX : Hid (∀ x ∈ leftL ord q.ends, x < js.length) := fun x hx => (left_lt HORD.out hx).1
      have hll : (leftL ord q.ends).length ≤ 1000 := Nat.le_trans (List.length_filter_le _ _) (by rw [HOL.out]; omega)
      have HI := Lib.hid (indexCan_any a.G b0 b1 dn (befN js.length T) HBEF.out (some ⟨a.gL, 0, none⟩) a.cL (leftL ord q.ends) wr hW.row (fun x hx => by have := HX.out x hx; omega) h0W h1W hW.1.lt (fun j hj => by rw [hW.1.cell]; exact lmC_bef _ _ _ _ _ _ hj) hll)
      have c0 := h0W.cell 0
      have c10 := hW.1.cell 10
      simp only [lmC, List.getElem?_toArray, List.getElem?_cons_zero, List.getElem?_cons_succ] at c0 c10
      clear hW hbW h0W h1W
      go_wp2_with fail
      refine HI.out.mono ?_
      rintro e w5 ⟨⟨p, rfl, hpl, hpt, hpb⟩ | ⟨rfl, hno⟩, hb5⟩
      · have hpk := pick_at hpl (by rw [← HWC2.out]; exact hpt) (fun i hi hip => by rw [← HWC2.out]; exact hpb i hi hip)
        have hjn := HX.out _ (List.getElem_mem hpl)
        have hS5 : StW a (.slice A js.length c) js.length (befN js.length T) mm w0 b0 b1 dn (leftL ord q.ends).length (leftL ord q.ends) q w5 := ⟨hS.out.1.below hb5, hS.out.2.1.trans (hb5.mono hS.out.2.1.size), hS.out.2.2.1.below hb5, hS.out.2.2.2.below hb5⟩
        have hp0 : decide ((p : Int) < 0) = false := decide_eq_false (by omega)
        by_cases hf : fk ≤ now
        · have hs := HSOME.out _ hf hpk
          have hjp : (leftL ord q.ends)[p] < q.plan.length := by rw [HOq.out.lp]; exact hjn
          have hje : (leftL ord q.ends)[p] < q.ends.length := by rw [HOq.out.le]; exact hjn
          have hjt := jAt_bd HOK.out hjn
          have hle := left_erase HND.out hje (e := now + jAt js (leftL ord q.ends)[p]) (by omega) hpl rfl
          have cL := natAt0 hS5.1.row hpl
          obtain ⟨hW5, hbW5, h0W5, h1W5⟩ := hS5
          have c0' := h0W5.cell 0
          have c10' := hW5.1.cell 10
          simp only [lmC, List.getElem?_toArray, List.getElem?_cons_zero, List.getElem?_cons_succ] at c0' c10'
          have HPL : Hid (p < (leftL ord q.ends).length) := hpl
          have hp1 : (p : Int) < (leftL ord q.ends).length := by omega
          have hp2 : (0 : Int) ≤ p := by omega
          have hf2 : decide (now < fk) = false := decide_eq_false (by omega)
          have HSW : Hid (StW a (.slice A js.length c) js.length (befN js.length T) mm w0 b0 b1 dn (leftL ord q.ends).length (leftL ord q.ends) q w5) := ⟨hW5, hbW5, h0W5, h1W5⟩
          have key : ∃ j : Nat, j < js.length ∧ j < q.plan.length ∧ j < q.ends.length ∧ (1 ≤ jAt js j ∧ jAt js j ≤ 50) ∧ (leftL ord q.ends).eraseIdx p = leftL ord (q.ends.set j (now + jAt js j)) ∧ w5.cell? ⟨a.gL, p, none⟩ = some (.int .i64 (j : Int)) ∧ startTo js T ord now s (k + 1) = assignL js q now k j := ⟨(leftL ord q.ends)[p], hjn, hjp, hje, hjt, hle, cL, HST.out.trans hs⟩
          clear hs hpk hpt hpb hb5 hS hW5 hbW5 h0W5 h1W5 HLATE HSOME c0 c10 hcF HI HWC2 HSTK HST hjn hjp hje hjt hle cL hpl
          obtain ⟨j, hjn, hjp, hje, hjt, hle, cL, hst⟩ := key
          have HST := Lib.hid hst
          have HLE := Lib.hid hle
          clear hst hle
          go_wp2
          have HLN : Hid ((leftL ord (q.ends.set j (now + jAt js j))).length = (leftL ord q.ends).length - 1) := by show _ = _; rw [← HLE.out, List.length_eraseIdx_of_lt HPL.out]
          have HFR : Hid (StW a (.slice A js.length c) js.length (befN js.length T) mm w0 b0 b1 dn (leftL ord q.ends).length (leftL ord q.ends) q w5.drew) := ⟨HSW.out.1, HSW.out.2.1.drew, HSW.out.2.2.1, HSW.out.2.2.2⟩
          have hpw : IntKind.i64.wrap ((p : Int) + 1) = (p : Int) + 1 := IntWalk.i64_in _ (by omega)
          refine wp_region_detP (γ := Unit) (by kernel_rfl) (fun _ L W => (L.getD 8 true = false → StW a (.slice A js.length c) js.length (befN js.length T) mm w0 b0 b1 dn (leftL ord q.ends).length (leftL ord q.ends) q W) ∧ (L.getD 8 true = true → L.getD 11 true = false → StW a (.slice A js.length c) js.length (befN js.length T) mm w0 b0 b1 dn (leftL ord q.ends).length (leftL ord (q.ends.set j (now + jAt js j))) q W) ∧ (L.getD 11 true = true → StW a (.slice A js.length c) js.length (befN js.length T) mm w0 b0 b1 dn (leftL ord (q.ends.set j (now + jAt js j))).length (leftL ord (q.ends.set j (now + jAt js j))) q W)) (fun _ kk => (#[.pointer (some ⟨a.G, 0, none⟩), .pointer (some ⟨a.G, 0, none⟩), .pointer (some ⟨a.G, 0, none⟩), .pointer (some ⟨a.G, 10, none⟩), .slice (some ⟨a.gL, 0, none⟩) (leftL ord q.ends).length a.cL, .int .i64 (p : Int), .int .i64 (p : Int), .int .i64 ((p : Int) + 1), .slice (some ⟨a.gL, 0, none⟩) ((leftL ord q.ends).length - 1) a.cL, .pointer (some ⟨a.G, 0, none⟩), .pointer (some ⟨a.G, 10, none⟩), undef] : Array Value).getD kk undef) () (by kernel_rfl) (by kernel_rfl) ⟨fun _ => HFR.out, fun h _ => absurd (h.symm.trans (rep_getD 12 8 (by decide))) (by decide), fun h => absurd (h.symm.trans (rep_getD 12 11 (by decide))) (by decide)⟩ ?_ ?_
          · intro _ L W hall hS
            have HS2 := Lib.hid (hS.2.2 (hall 11 (by decide)))
            clear hS hall
            simp only [putsL]
            obtain ⟨hW, hbW, h0W, h1W⟩ := HS2.out
            have c0 := h0W.cell 0
            have c13 := hW.1.cell 13
            simp only [lmC, List.getElem?_toArray, List.getElem?_cons_zero, List.getElem?_cons_succ] at c0 c13
            obtain ⟨v0, hv0⟩ := hW.2.2.2.2.has (i := j * 3) (by simp [spc_len]; omega)
            obtain ⟨v1, hv1⟩ := hW.2.2.2.2.has (i := j * 3 + 1) (by simp [spc_len]; omega)
            obtain ⟨v2, hv2⟩ := hW.2.2.2.2.has (i := j * 3 + 2) (by simp [spc_len]; omega)
            have hf0 := hW.2.2.2.2.frozen (j * 3)
            have hf1 := hW.2.2.2.2.frozen (j * 3 + 1)
            have hf3 := hW.2.2.2.2.frozen (j * 3 + 2)
            have hj0 : (0 : Int) ≤ j := by omega
            have hj1 : (j : Int) < js.length := by omega
            have hP := hW.planned HA.out j ⟨(j : Int), (k : Int), now⟩ hjp
            have hPb : w0.heap.size ≤ a.gP := HA.out.hP
            have HS3 : Hid (StW a (.slice A js.length c) js.length (befN js.length T) mm w0 b0 b1 dn (leftL ord (q.ends.set j (now + jAt js j))).length (leftL ord (q.ends.set j (now + jAt js j))) ⟨q.free, q.ends, q.plan.set j ⟨(j : Int), (k : Int), now⟩⟩ (((W.setCell ⟨a.gP, j * 3, none⟩ (.int .i64 (j : Int))).setCell ⟨a.gP, j * 3 + 1, none⟩ (.int .i64 (k : Int))).setCell ⟨a.gP, j * 3 + 2, none⟩ (.int .i64 now))) := ⟨hP, ((hbW.setCell (p := ⟨a.gP, j * 3, none⟩) hPb _).setCell (p := ⟨a.gP, j * 3 + 1, none⟩) hPb _).setCell (p := ⟨a.gP, j * 3 + 2, none⟩) hPb _, ((h0W.away (ptr_neP h0W hW.2.2.2.2) _ _).away (ptr_neP h0W hW.2.2.2.2) _ _).away (ptr_neP h0W hW.2.2.2.2) _ _, ((h1W.away (setb_neP h1W hW.2.2.2.2) _ _).away (setb_neP h1W hW.2.2.2.2) _ _).away (setb_neP h1W hW.2.2.2.2) _ _⟩
            clear hW hbW h0W h1W hP HS2 HSW HFR hpw c0' c10' cL hp0 hp1 hp2
            go_wp2
            clear c0 c13 hv0 hv1 hv2 hf0 hf1 hf3
            obtain ⟨V, hV⟩ : ∃ V, (((W.setCell ⟨a.gP, j * 3, none⟩ (.int .i64 (j : Int))).setCell ⟨a.gP, j * 3 + 1, none⟩ (.int .i64 (k : Int))).setCell ⟨a.gP, j * 3 + 2, none⟩ (.int .i64 now)) = V := ⟨_, rfl⟩
            rw [hV] at HS3 ⊢
            clear hV
            obtain ⟨hW, hbW, h0W, h1W⟩ := HS3.out
            obtain ⟨ad, hA', hbl, hcj, hc1, hc2, hc3⟩ := (HR.out.below hbW).job hjn
            subst hA'
            have e1 : jAt js j = js[j].t := congrArg J.t (getD_at js j0 hjn)
            rw [← e1] at hcj
            clear hc1 hc2 hc3 e1
            have c0 := h0W.cell 0
            have c12 := hW.1.cell 12
            have cJ := hW.1.cell 0
            simp only [lmC, List.getElem?_toArray, List.getElem?_cons_zero, List.getElem?_cons_succ] at c0 c12 cJ
            obtain ⟨ve, hve⟩ := hW.2.2.2.1.has (i := j) (by simpa [ic_len] using hje)
            have hfe := hW.2.2.2.1.frozen j
            have hwr : IntKind.i64.wrap (now + jAt js j) = now + jAt js j := IntWalk.i64_in _ (by omega)
            have hEb : w0.heap.size ≤ a.gE := HA.out.hE
            have HS4 : Hid (StW a (.slice (some ad) js.length c) js.length (befN js.length T) mm w0 b0 b1 dn (leftL ord (q.ends.set j (now + jAt js j))).length (leftL ord (q.ends.set j (now + jAt js j))) ⟨q.free, q.ends.set j (now + jAt js j), q.plan.set j ⟨(j : Int), (k : Int), now⟩⟩ ((V.setCell ⟨a.gE, j, none⟩ (.int .i64 (now + jAt js j))).drew)) := ⟨hW.ended HA.out j _, (hbW.setCell (p := ⟨a.gE, j, none⟩) hEb _).drew, h0W.away (ptr_ne h0W hW.2.2.2.1) _ _, h1W.away (setb_ne h1W hW.2.2.2.1) _ _⟩
            clear hW hbW h0W h1W HS3
            go_wp2
            go_still_tail 17, (by kernel_rfl)
            change wpList _ _ _ _ _ V.drew
            go_wp2
            clear c0 c12 cJ hcj hve hfe
            change Code.wp _ _ _ _ ((V.setCell ⟨a.gE, j, none⟩ (.int .i64 (now + jAt js j))).drew)
            obtain ⟨X, hX⟩ : ∃ X, ((V.setCell ⟨a.gE, j, none⟩ (.int .i64 (now + jAt js j))).drew) = X := ⟨_, rfl⟩
            rw [hX] at HS4 ⊢
            clear hX
            obtain ⟨hW, hbW, h0W, h1W⟩ := HS4.out
            have c0 := h0W.cell 0
            have c11 := hW.1.cell 11
            have c12 := hW.1.cell 12
            simp only [lmC, List.getElem?_toArray, List.getElem?_cons_zero, List.getElem?_cons_succ] at c0 c11 c12
            have cE := hW.2.2.2.1.int (k := j) (by simpa using hje)
            have hge : (q.ends.set j (now + jAt js j))[j]'(by simpa using hje) = now + jAt js j := by simp
            rw [hge] at cE
            clear hge
            obtain ⟨vf, hvf⟩ := hW.2.2.1.has (i := k) (by simpa [ic_len, HOq.out.lf] using hlt)
            have hff := hW.2.2.1.frozen k
            have hFb : w0.heap.size ≤ a.gF := HA.out.hF
            have HS5 : Hid (StW a (.slice (some ad) js.length c) js.length (befN js.length T) mm w0 b0 b1 dn (leftL ord (q.ends.set j (now + jAt js j))).length (leftL ord (q.ends.set j (now + jAt js j))) (assignL js q now k j) ((X.setCell ⟨a.gF, k, none⟩ (.int .i64 (now + jAt js j))).drew)) := ⟨hW.freed HA.out k _, (hbW.setCell (p := ⟨a.gF, k, none⟩) hFb _).drew, h0W.away (ptr_ne h0W hW.2.2.1) _ _, h1W.away (setb_ne h1W hW.2.2.1) _ _⟩
            clear hW hbW h0W h1W HS4
            go_wp2
            go_still_tail 13, (by kernel_rfl)
            change wpList _ _ _ _ _ X.drew
            go_wp2
            go_roundw
            case rel => exact ⟨k + 1, by omega, by go_num, by rw [HST.out]; exact HS5.out⟩
            case measure => simp [intOf]; omega
          · intro _ L ac W iq op hLs hop hLi hLd hLn hS hlow hdep
            have hq : iq < 12 := (Array.getElem?_eq_some_iff.1 hop).1
            have h8to11 : L.getD 11 true = true → L.getD 8 true = true → True := fun _ _ => trivial
            have hb0 : BlockIs W b0 202 #[.pointer (some ⟨a.G, 0, none⟩)] := by
              cases h8 : L.getD 8 true
              · exact (hS.1 h8).2.2.1
              · cases h11 : L.getD 11 true
                · exact (hS.2.1 h8 h11).2.2.1
                · exact (hS.2.2 h11).2.2.1
            have c0 := hb0.cell 0
            simp only [List.getElem?_toArray, List.getElem?_cons_zero] at c0
            have K : iq ≠ 8 → iq ≠ 11 → ((L.setIfInBounds iq true).getD 8 true = false → StW a (.slice A js.length c) js.length (befN js.length T) mm w0 b0 b1 dn (leftL ord q.ends).length (leftL ord q.ends) q W) ∧ ((L.setIfInBounds iq true).getD 8 true = true → (L.setIfInBounds iq true).getD 11 true = false → StW a (.slice A js.length c) js.length (befN js.length T) mm w0 b0 b1 dn (leftL ord q.ends).length (leftL ord (q.ends.set j (now + jAt js j))) q W) ∧ ((L.setIfInBounds iq true).getD 11 true = true → StW a (.slice A js.length c) js.length (befN js.length T) mm w0 b0 b1 dn (leftL ord (q.ends.set j (now + jAt js j))).length (leftL ord (q.ends.set j (now + jAt js j))) q W) := fun h1 h2 => by
              rw [getD_set_true, getD_set_true, if_neg (fun h => h1 h.1), if_neg (fun h => h2 h.1)]
              exact hS
            rcases (by omega : iq = 0 ∨ iq = 1 ∨ iq = 2 ∨ iq = 3 ∨ iq = 4 ∨ iq = 5 ∨ iq = 6 ∨ iq = 7 ∨ iq = 8 ∨ iq = 9 ∨ iq = 10 ∨ iq = 11) with rfl | rfl | rfl | rfl | rfl | rfl | rfl | rfl | rfl | rfl | rfl | rfl
            · obtain rfl := Option.some.inj hop
              have e2 : ac.tmps[2]?.getD undef = .pointer (some ⟨b0, 0, none⟩) := (Array.getD_eq_getD_getElem? ..).symm.trans (hlow 2 (by kernel_rfl))
              exact ⟨wanted_free rfl, .inl ⟨(), W, fun _ _ => rfl, by simp [execOp, Act.eval, e2, c0, go_sem], K (by decide) (by decide)⟩⟩
            · obtain rfl := Option.some.inj hop
              have e2 : ac.tmps[2]?.getD undef = .pointer (some ⟨b0, 0, none⟩) := (Array.getD_eq_getD_getElem? ..).symm.trans (hlow 2 (by kernel_rfl))
              exact ⟨wanted_free rfl, .inl ⟨(), W, fun _ _ => rfl, by simp [execOp, Act.eval, e2, c0, go_sem], K (by decide) (by decide)⟩⟩
            · obtain rfl := Option.some.inj hop
              have e43 : ac.tmps[43]?.getD undef = .pointer (some ⟨a.G, 0, none⟩) := (Array.getD_eq_getD_getElem? ..).symm.trans (hdep 1 _ 43 (by kernel_rfl) rfl rfl)
              exact ⟨wanted_free rfl, .inl ⟨(), W, fun _ _ => rfl, by simp [execOp, Act.eval, e43, go_sem], K (by decide) (by decide)⟩⟩
            · obtain rfl := Option.some.inj hop
              have e44 : ac.tmps[44]?.getD undef = .pointer (some ⟨a.G, 0, none⟩) := (Array.getD_eq_getD_getElem? ..).symm.trans (hdep 2 _ 44 (by kernel_rfl) rfl rfl)
              exact ⟨wanted_free rfl, .inl ⟨(), W, fun _ _ => rfl, by simp [execOp, Act.eval, e44, go_sem], K (by decide) (by decide)⟩⟩
            · obtain rfl := Option.some.inj hop
              have e45 : ac.tmps[45]?.getD undef = .pointer (some ⟨a.G, 10, none⟩) := (Array.getD_eq_getD_getElem? ..).symm.trans (hdep 3 _ 45 (by kernel_rfl) rfl rfl)
              have h10 := (hS.1 (hLn 8 (by kernel_rfl))).1.1.cell 10
              simp only [lmC, List.getElem?_toArray, List.getElem?_cons_zero, List.getElem?_cons_succ] at h10
              exact ⟨wanted_free rfl, .inl ⟨(), W, fun _ _ => rfl, by simp [execOp, Act.eval, e45, h10, go_sem], K (by decide) (by decide)⟩⟩
            · obtain rfl := Option.some.inj hop
              have e8 : ac.tmps[8]?.getD undef = .int .i64 (p : Int) := (Array.getD_eq_getD_getElem? ..).symm.trans (hlow 8 (by kernel_rfl))
              exact ⟨wanted_free rfl, .inl ⟨(), W, fun _ _ => rfl, by simp [execOp, Act.eval, e8, go_sem], K (by decide) (by decide)⟩⟩
            · obtain rfl := Option.some.inj hop
              have e8 : ac.tmps[8]?.getD undef = .int .i64 (p : Int) := (Array.getD_eq_getD_getElem? ..).symm.trans (hlow 8 (by kernel_rfl))
              exact ⟨wanted_free rfl, .inl ⟨(), W, fun _ _ => rfl, by simp [execOp, Act.eval, e8, go_sem], K (by decide) (by decide)⟩⟩
            · obtain rfl := Option.some.inj hop
              have e48 : ac.tmps[48]?.getD undef = .int .i64 (p : Int) := (Array.getD_eq_getD_getElem? ..).symm.trans (hdep 6 _ 48 (by kernel_rfl) rfl rfl)
              exact ⟨wanted_free rfl, .inl ⟨(), W, fun _ _ => rfl, by simp [execOp, Act.eval, e48, hpw, go_sem], K (by decide) (by decide)⟩⟩
            · obtain rfl := Option.some.inj hop
              have e46 : ac.tmps[46]?.getD undef = .slice (some ⟨a.gL, 0, none⟩) (leftL ord q.ends).length a.cL := (Array.getD_eq_getD_getElem? ..).symm.trans (hdep 4 _ 46 (by kernel_rfl) rfl rfl)
              have e47 : ac.tmps[47]?.getD undef = .int .i64 (p : Int) := (Array.getD_eq_getD_getElem? ..).symm.trans (hdep 5 _ 47 (by kernel_rfl) rfl rfl)
              have e49 : ac.tmps[49]?.getD undef = .int .i64 ((p : Int) + 1) := (Array.getD_eq_getD_getElem? ..).symm.trans (hdep 7 _ 49 (by kernel_rfl) rfl rfl)
              obtain ⟨hW, hbW, h0W, h1W⟩ := hS.1 hLi
              obtain ⟨hWG, ⟨cur, hcB, hcs, hcl, hcc⟩, hWF, hWE, hWP⟩ := hW
              have hnl : (natI (leftL ord q.ends)).length = (leftL ord q.ends).length := by simp
              have hDL := delete_fr (o := natI (leftL ord q.ends)) (f := p) hcB hcs (by rw [hnl]; exact hcl) HA.out.hc (fun i hi => hcc i (by rw [hnl] at hi; exact hi)) (by rw [hnl]; exact HPL.out)
              have hne : (natI (leftL ord q.ends)).eraseIdx p = natI (leftL ord (q.ends.set j (now + jAt js j))) := by rw [← HLE.out]; exact nat_erase _ _
              rw [hnl, hne] at hDL
              refine ⟨wanted_free rfl, .inr (.inl ⟨163, #[.slice (some ⟨a.gL, 0, none⟩) (leftL ord q.ends).length a.cL, .int .i64 (p : Int), .int .i64 ((p : Int) + 1)], by simp [execOp, Act.eval, e46, e47, e49, go_sem], hDL.mono ?_⟩)⟩
              rintro e w2 ⟨rfl, ⟨cur2, hc2, hs2, ht2⟩, hsz2, hfr2, hbel2⟩
              have hbL : w0.heap.size ≤ a.gL := HA.out.hL
              have hDB : Below w0.heap.size w0 w2 := hbW.trans (hbel2 _ hbL hbW.size)
              refine ⟨(), fun _ _ => rfl, rfl, fun h => ?_, fun _ _ => ⟨⟨(hfr2 _ HA.out.d1).trans hWG, ⟨cur2, hc2, hs2, by rw [HLN.out]; omega, fun i hi => ht2 i (by simpa using hi)⟩, (hfr2 _ HA.out.d5.symm).trans hWF, (hfr2 _ HA.out.d6.symm).trans hWE, (hfr2 _ HA.out.d7.symm).trans hWP⟩, hDB, (hfr2 _ (ptr_ne h0W hcB)).trans h0W, (hfr2 _ (setb_ne h1W hcB)).trans h1W⟩, fun h => ?_⟩
              · rw [getD_set_true, if_pos ⟨rfl, by rw [hLs]; decide⟩] at h
                cases h
              · rw [getD_set_true, if_neg (fun q => absurd q.1 (by decide))] at h
                rw [hLn 11 (by kernel_rfl)] at h
                cases h
            · obtain rfl := Option.some.inj hop
              have e42 : ac.tmps[42]?.getD undef = .pointer (some ⟨a.G, 0, none⟩) := (Array.getD_eq_getD_getElem? ..).symm.trans (hdep 0 _ 42 (by kernel_rfl) rfl rfl)
              exact ⟨wanted_free rfl, .inl ⟨(), W, fun _ _ => rfl, by simp [execOp, Act.eval, e42, go_sem], K (by decide) (by decide)⟩⟩
            · obtain rfl := Option.some.inj hop
              have e51 : ac.tmps[51]?.getD undef = .pointer (some ⟨a.G, 0, none⟩) := (Array.getD_eq_getD_getElem? ..).symm.trans (hdep 9 _ 51 (by kernel_rfl) rfl rfl)
              exact ⟨wanted_free rfl, .inl ⟨(), W, fun _ _ => rfl, by simp [execOp, Act.eval, e51, go_sem], K (by decide) (by decide)⟩⟩
            · obtain rfl := Option.some.inj hop
              have e52 : ac.tmps[52]?.getD undef = .pointer (some ⟨a.G, 10, none⟩) := (Array.getD_eq_getD_getElem? ..).symm.trans (hdep 10 _ 52 (by kernel_rfl) rfl rfl)
              have e50 : ac.tmps[50]?.getD undef = .slice (some ⟨a.gL, 0, none⟩) ((leftL ord q.ends).length - 1) a.cL := (Array.getD_eq_getD_getElem? ..).symm.trans (hdep 8 _ 50 (by kernel_rfl) rfl rfl)
              have h8t : L.getD 8 true = true := hLd 8 (by kernel_rfl)
              obtain ⟨hW, hbW, h0W, h1W⟩ := hS.2.1 h8t hLi
              obtain ⟨u10, hu10⟩ := hW.1.has (i := 10) (by show 10 < 14; decide)
              have hf10 := hW.1.frozen 10
              have hwl := hW.head HA.out ((leftL ord q.ends).length - 1)
              rw [← HLN.out] at hwl
              have hGb : w0.heap.size ≤ a.G := HA.out.hG
              refine ⟨wanted_free rfl, .inr (.inr ⟨W.setCell ⟨a.G, 10, none⟩ (.slice (some ⟨a.gL, 0, none⟩) ((leftL ord q.ends).length - 1) a.cL), rfl, by simp [execOp, Act.eval, e52, e50, hu10, hf10, go_sem], fun h => ?_, fun _ h => ?_, fun _ => ⟨by rw [← HLN.out]; exact hwl, hbW.setCell (p := ⟨a.G, 10, none⟩) hGb _, h0W.away (ptr_neG h0W hW.1) 10 _, h1W.away (setb_neG h1W hW.1) 10 _⟩⟩)⟩
              · rw [getD_set_true, if_neg (fun q => absurd q.1 (by decide)), h8t] at h
                cases h
              · rw [getD_set_true, if_pos ⟨rfl, by rw [hLs]; decide⟩] at h
                cases h
        · have hs := HLATE.out (by omega)
          rw [hs] at HST
          have HY := Lib.hid hS5
          have hf2 : now < fk := by omega
          clear hs hpk hpt hpb hb5 hS hS5 HLATE HSOME c0 c10 hcF HI hpl hf hjn
          go_wp2
          go_roundw
          case rel => exact ⟨k + 1, by omega, by go_num, by rw [HST.out]; exact HY.out⟩
          case measure => simp [intOf]; omega
      · have HEND := HSTK.out (pick_no fun i hi => by rw [← HWC2.out]; exact hno i hi)
        have HY := Lib.hid (And.intro (hS.out.1.below hb5) (hS.out.2.1.trans (hb5.mono hS.out.2.1.size)))
        rw [← HEND] at HY
        clear HEND hno hb5 hS c0 c10 hcF HI
        go_wp2
        (try simp only [Exit.inBlock, Exit.then])
        refine bodyPost_ret (results_none rfl _ _ _) rfl ?_
        exact ⟨rfl, HY.out.1, HY.out.2⟩
    · obtain rfl : k = mm := by omega
      go_wp2
      go_end0
      exact ⟨rfl, hS.out.1, hS.out.2.1⟩
end Go.Proofs.YtjemjdlaoebffaaDoor

end
section
namespace Go.Proofs.YtjemjdlaoebffaaDoor
open Go.RowKit
def repW (n m : Nat) : List Int := List.replicate n 1000 ++ List.replicate (m - n) 0
theorem repW_len {n m : Nat} (h : n ≤ m) : (repW n m).length = m := by unfold repW; simp; omega
theorem repW_splice {n m k : Nat} (h : n + k ≤ m) : splice (ic (repW n m)) n (ic (List.replicate k 1000)) = ic (repW (n + k) m) := by
  unfold splice ic repW
  simp only [List.map_append, List.map_replicate, List.length_replicate]
  rw [List.take_append_of_le_length (by simp), List.take_of_length_le (by simp), List.drop_append, List.drop_of_length_le (by simp), List.nil_append, List.length_replicate, List.drop_replicate]
  simp only [← List.append_assoc, List.replicate_append_replicate]
  rw [show m - n - (n + k - n) = m - (n + k) by omega]
theorem repW_zero (m : Nat) : List.replicate m (0 : Int) = repW 0 m := by unfold repW; simp
theorem repW_all (m : Nat) : repW m m = List.replicate m 1000 := by unfold repW; simp
theorem repW_src {w : World} {g n m : Nat} (hB : BlockIs w g 3 (ic (repW n m)).toArray) (k : Nat) (hk : k ≤ n) : ∀ j v, (ic (List.replicate k (1000 : Int)))[j]? = some v → w.cell? ((⟨g, 0, none⟩ : Addr).add j) = some v := by
  intro j v hj
  rw [Addr.add_lit, Nat.zero_add, hB.cell j, List.getElem?_toArray]
  have hjk : j < k := by
    have := (List.getElem?_eq_some_iff.1 hj).1
    rw [ic_len] at this
    simpa using this
  unfold ic repW at *
  rw [List.map_append, List.getElem?_append_left (by simp; omega)]
  rw [← hj]
  simp [hjk, show j < n by omega]
theorem rep_one {k : Nat} : ∀ v ∈ ic (List.replicate k (1000 : Int)), v.oneCell' = true := by
  intro v hv
  unfold ic at hv
  rw [List.map_replicate] at hv
  rw [(List.mem_replicate.1 hv).2]
  rfl
theorem keepL7 {L : Array Bool} {i : Nat} {p q : Prop} (hi : i ≠ 7) (h : (L.getD 7 true = false → p) ∧ (L.getD 7 true = true → q)) : ((L.setIfInBounds i true).getD 7 true = false → p) ∧ ((L.setIfInBounds i true).getD 7 true = true → q) := by
  rw [getD_set_true, if_neg (fun h => hi h.1)]; exact h
theorem setL7 {L : Array Bool} {p q : Prop} (hs : L.size = 10) (h : q) : ((L.setIfInBounds 7 true).getD 7 true = false → p) ∧ ((L.setIfInBounds 7 true).getD 7 true = true → q) := by
  rw [getD_set_true, if_pos ⟨rfl, by rw [hs]; decide⟩]
  exact ⟨fun h => (by cases h), fun _ => h⟩
theorem infoI1 : (Tryd.prog.info? 3).map (·.size) = some 1 := by kernel_rfl
set_option maxRecDepth 100000 in
set_option maxHeartbeats 4000000 in
theorem repeat_any (A : Addr) (cA m : Nat) (w : World) (hx : w.cell? A = some (.int .i64 1000)) (hAb : A.block < w.heap.size) (hm1 : 1 ≤ m) (hm : m ≤ 1000) :
    Calls Tryd.prog 108 #[.slice (some A) 1 cA, .int .i64 (m : Int)] w fun e w' => ∃ g, e = .returned (.slice (some ⟨g, 0, none⟩) m m) ∧ w.heap.size ≤ g ∧ BlockIs w' g 3 (ic (List.replicate m 1000)).toArray ∧ Below w.heap.size w w' := by
  have HMUL : Hid (∀ W : World, Calls Tryd.prog 106 #[.int .u64 1, .int .u64 (m : Int)] W fun e w' => e = .returned (.tuple #[.int .u64 0, .int .u64 (m : Int)]) ∧ w' = W) := fun W => by
    have h := Tryd.bits_Mul 1 m (by omega) (by omega) W
    rw [show 1 * m / 18446744073709551616 = 0 by omega, show 1 * m % 18446744073709551616 = m by omega] at h
    exact h
  have hmk := run_make_row' (P := Tryd.prog) 23 3 (.int .i64 0) 8 Tryd.underlying23 infoI rfl .i64 .i64 m (by omega) (by omega)
  have hm0 : ¬ (m : Int) < 0 := by omega
  have hm9 : ¬ (9223372036854775807 : Int) < m := by omega
  have hmp : (0 : Int) ≤ m := by omega
  have H1 : Hid (BlockIs (w.alloc (.cells (madeCells #[.int .i64 0] m) 3)) w.heap.size 3 (ic (repW 0 m)).toArray ∧ Below w.heap.size w (w.alloc (.cells (madeCells #[.int .i64 0] m) 3))) := ⟨by rw [← repW_zero, ← ic_made]; exact BlockIs.new _ _ _, (Below.refl _ _).alloc (Nat.le_refl _) _⟩
  have H2 : Hid ((ic (List.replicate 1 (1000 : Int))).length = Nat.min 1 m ∧ ∀ j v, (ic (List.replicate 1 (1000 : Int)))[j]? = some v → (w.alloc (.cells (madeCells #[.int .i64 0] m) 3)).cell? (A.add j) = some v) := by
    refine ⟨by show 1 = min 1 m; omega, fun j v hj => ?_⟩
    have hj0 : j = 0 := by
      have := (List.getElem?_eq_some_iff.1 hj).1
      rw [ic_len] at this
      simpa using this
    subst hj0
    have hv : some (Value.int .i64 1000) = some v := hj
    rw [← hv, ← hx]
    exact ((Below.refl w.heap.size w).alloc (Nat.le_refl _) _).cell hAb
  have H3 : Hid (0 + (ic (List.replicate 1 (1000 : Int))).length ≤ (ic (repW 0 m)).length) := by show _ ≤ _; rw [ic_len, ic_len, repW_len (by omega)]; simp; omega
  have HS : Hid (((ic (repW 0 m)).toArray.toList.take 0 ++ ic (List.replicate 1 1000) ++ (ic (repW 0 m)).toArray.toList.drop (0 + (ic (List.replicate 1 (1000 : Int))).length)) = ic (repW 1 m)) := by
    have h := repW_splice (n := 0) (m := m) (k := 1) (by omega)
    rw [Nat.zero_add] at h
    exact h
  have hcp := run_copy_row (P := Tryd.prog) (w.alloc (.cells (madeCells #[.int .i64 0] m) 3)) 23 23 3 3 w.heap.size 0 m m A 1 cA (ic (repW 0 m)).toArray 3 (ic (List.replicate 1 1000)) Tryd.underlying23 infoI1 H1.out.1 H2.out.1 H2.out.2 (by rw [← Array.length_toList]; exact H3.out) rep_one
  rw [HS.out] at hcp
  have hB4 : BlockIs ((w.alloc (.cells (madeCells #[.int .i64 0] m) 3)).setRow w.heap.size (ic (repW 1 m)).toArray) w.heap.size 3 (ic (repW 1 m)).toArray := setRow_heap _ _ _ _ _ _ H1.out.1
  have hb4 := below_setRow H1.out.2 (Nat.le_refl _) (ic (repW 1 m)).toArray
  have H4 := Lib.hid (And.intro hB4 hb4)
  have HCP := Lib.hid hcp
  clear hx hB4 hb4 hcp H1 H2 H3 HS
  go_enter Tryd.func108, Tryd.ntmps108
  go_wp2_with fail
  refine (HMUL.out _).mono ?_
  rintro e w' ⟨rfl, hww⟩
  obtain rfl := hww.symm
  go_wp2
  rw [HCP.out]
  generalize hw4 : World.setRow _ _ _ = w4 at *
  clear hw4 HCP
  go_wp2
  rw [show (ic [1000]).length = 1 from rfl]
  go_loopw [8] (fun nv wr => ∃ n : Nat, 1 ≤ n ∧ n ≤ m ∧ nv = .int .i64 (n : Int) ∧ Hid (BlockIs wr w.heap.size 3 (ic (repW n m)).toArray) ∧ Hid (Below w.heap.size w wr)) (fun nv _ => m - (intOf nv).toNat)
  case atStart => exact ⟨1, Nat.le_refl _, hm1, rfl, H4.out.1, H4.out.2⟩
  case round =>
    obtain ⟨n, hn1, hn, rfl, hB, hb⟩ := hrel
    clear H4 hmk
    by_cases hlt : n < m
    · obtain ⟨k, hk⟩ : ∃ k, k = min n (m - n) := ⟨_, rfl⟩
      have H5 : Hid ((ic (List.replicate k (1000 : Int))).length = Nat.min n (m - n)) := by show _ = min n (m - n); rw [ic_len, List.length_replicate, hk]
      have H6 := Lib.hid (repW_src hB.out k (by omega))
      have H7 : Hid (n + (ic (List.replicate k (1000 : Int))).length ≤ (ic (repW n m)).length) := by show _ ≤ _; rw [ic_len, ic_len, repW_len (by omega)]; simp; omega
      have HS : Hid (((ic (repW n m)).toArray.toList.take n ++ ic (List.replicate k 1000) ++ (ic (repW n m)).toArray.toList.drop (n + (ic (List.replicate k (1000 : Int))).length)) = ic (repW (n + k) m)) := by
        have h := repW_splice (n := n) (m := m) (k := k) (by omega)
        unfold splice at h
        show _ = _
        rw [List.append_assoc]
        exact h
      have hcp := run_copy_row (P := Tryd.prog) (ty := 3) wr.drew 23 23 3 w.heap.size n (m - n) (m - n) ⟨w.heap.size, 0, none⟩ n m (ic (repW n m)).toArray 3 (ic (List.replicate k 1000)) Tryd.underlying23 infoI1 hB.out H5.out H6.out (by rw [← Array.length_toList]; exact H7.out) rep_one
      rw [HS.out] at hcp
      have hB4 : BlockIs (wr.drew.setRow w.heap.size (ic (repW (n + k) m)).toArray) w.heap.size 3 (ic (repW (n + k) m)).toArray := setRow_heap _ _ _ _ _ _ hB.out
      have hb4 := below_setRow hb.out.drew (Nat.le_refl _) (ic (repW (n + k) m)).toArray
      have H4 := Lib.hid (And.intro hB4 hb4)
      rw [show goInt (ic (List.replicate k (1000 : Int))).length = .int .i64 (k : Int) by rw [ic_len, List.length_replicate]; rfl] at hcp
      have HCP := Lib.hid hcp
      clear hB4 hb4 hcp HS H5 H6 H7 hB hb
      have hne : ¬ m = n := by omega
      have hn0 : (0 : Int) ≤ n := by omega
      have hnm : (n : Int) ≤ m := by omega
      have hnlt : (n : Int) < m := by omega
      obtain ⟨w5, hw5⟩ : ∃ w5, wr.drew.setRow w.heap.size (ic (repW (n + k) m)).toArray = w5 := ⟨_, rfl⟩
      rw [hw5] at H4 HCP
      clear hw5
      have hk1 : 1 ≤ k := by omega
      have hkm : n + k ≤ m := by omega
      have hwr := IntWalk.i64_in ((n : Int) + k) (by omega)
      have hrd : ∀ q : Prop, True := fun _ => trivial
      clear hrd
      go_wp2
      clear hk hm0 hm9
      refine wp_region_detL (by kernel_rfl) (fun L w' => (L.getD 7 true = false → w' = wr.drew) ∧ (L.getD 7 true = true → w' = w5))
        (fun kk => #[.int .i64 (n : Int), .slice (some ⟨w.heap.size, 0, none⟩) m m, .int .i64 (n : Int), .slice (some ⟨w.heap.size, n, none⟩) (m - n) (m - n), .slice (some ⟨w.heap.size, 0, none⟩) m m, .int .i64 (n : Int), .slice (some ⟨w.heap.size, 0, none⟩) n m, .int .i64 (k : Int), .int .i64 ((n : Int) + k), .int .i64 ((n : Int) + k)].getD kk undef) (by kernel_rfl) (by kernel_rfl) ⟨fun _ => rfl, fun h => by cases h⟩ ?_ ?_
      · intro L tm w' hall hS hsz hlow hval
        have ht : tm = #[.slice (some A) 1 cA, .int .i64 (m : Int), undef, undef, .slice none 0 0, .int .u64 0, .int .u64 (m : Int), .slice (some ⟨w.heap.size, 0, none⟩) m m, .int .i64 ((n : Int) + k), .int .i64 (m : Int), .bool false, undef, .tuple #[.int .u64 0, .int .u64 (m : Int)], .slice (some A) 1 cA, .int .i64 1, .int .u64 1, .int .i64 (m : Int), .int .u64 (m : Int), .tuple #[.int .u64 0, .int .u64 (m : Int)], .int .u64 0, .int .u64 (m : Int), .int .u64 0, .bool false, .bool false, .int .u64 (m : Int), .bool (decide (9223372036854775807 < (m : Int))), .bool (decide (9223372036854775807 < (m : Int))), undef, .int .u64 (m : Int), .int .i64 (m : Int), .slice (some ⟨w.heap.size, 0, none⟩) m m, .slice (some ⟨w.heap.size, 0, none⟩) m m, .slice (some A) 1 cA, .int .i64 1, .int .i64 (n : Int), .slice (some ⟨w.heap.size, 0, none⟩) m m, .int .i64 (m : Int), .bool true, .int .i64 (n : Int), .slice (some ⟨w.heap.size, 0, none⟩) m m, .int .i64 (n : Int), .slice (some ⟨w.heap.size, n, none⟩) (m - n) (m - n), .slice (some ⟨w.heap.size, 0, none⟩) m m, .int .i64 (n : Int), .slice (some ⟨w.heap.size, 0, none⟩) n m, .int .i64 (k : Int), .int .i64 ((n : Int) + k), undef] := by
          refine arr_of _ _ hsz fun t ht => ?_
          have ht' : t < 48 := ht
          rcases (by omega : t = 0 ∨ t = 1 ∨ t = 2 ∨ t = 3 ∨ t = 4 ∨ t = 5 ∨ t = 6 ∨ t = 7 ∨ t = 8 ∨ t = 9 ∨ t = 10 ∨ t = 11 ∨ t = 12 ∨ t = 13 ∨ t = 14 ∨ t = 15 ∨ t = 16 ∨ t = 17 ∨ t = 18 ∨ t = 19 ∨ t = 20 ∨ t = 21 ∨ t = 22 ∨ t = 23 ∨ t = 24 ∨ t = 25 ∨ t = 26 ∨ t = 27 ∨ t = 28 ∨ t = 29 ∨ t = 30 ∨ t = 31 ∨ t = 32 ∨ t = 33 ∨ t = 34 ∨ t = 35 ∨ t = 36 ∨ t = 37 ∨ t = 38 ∨ t = 39 ∨ t = 40 ∨ t = 41 ∨ t = 42 ∨ t = 43 ∨ t = 44 ∨ t = 45 ∨ t = 46 ∨ t = 47) with rfl | rfl | rfl | rfl | rfl | rfl | rfl | rfl | rfl | rfl | rfl | rfl | rfl | rfl | rfl | rfl | rfl | rfl | rfl | rfl | rfl | rfl | rfl | rfl | rfl | rfl | rfl | rfl | rfl | rfl | rfl | rfl | rfl | rfl | rfl | rfl | rfl | rfl | rfl | rfl | rfl | rfl | rfl | rfl | rfl | rfl | rfl | rfl
          · exact hlow 0 (by kernel_rfl)
          · exact hlow 1 (by kernel_rfl)
          · exact hlow 2 (by kernel_rfl)
          · exact hlow 3 (by kernel_rfl)
          · exact hlow 4 (by kernel_rfl)
          · exact hlow 5 (by kernel_rfl)
          · exact hlow 6 (by kernel_rfl)
          · exact hlow 7 (by kernel_rfl)
          · exact hval 9 _ 8 rfl rfl
          · exact hlow 9 (by kernel_rfl)
          · exact hlow 10 (by kernel_rfl)
          · exact hlow 11 (by kernel_rfl)
          · exact hlow 12 (by kernel_rfl)
          · exact hlow 13 (by kernel_rfl)
          · exact hlow 14 (by kernel_rfl)
          · exact hlow 15 (by kernel_rfl)
          · exact hlow 16 (by kernel_rfl)
          · exact hlow 17 (by kernel_rfl)
          · exact hlow 18 (by kernel_rfl)
          · exact hlow 19 (by kernel_rfl)
          · exact hlow 20 (by kernel_rfl)
          · exact hlow 21 (by kernel_rfl)
          · exact hlow 22 (by kernel_rfl)
          · exact hlow 23 (by kernel_rfl)
          · exact hlow 24 (by kernel_rfl)
          · exact hlow 25 (by kernel_rfl)
          · exact hlow 26 (by kernel_rfl)
          · exact hlow 27 (by kernel_rfl)
          · exact hlow 28 (by kernel_rfl)
          · exact hlow 29 (by kernel_rfl)
          · exact hlow 30 (by kernel_rfl)
          · exact hlow 31 (by kernel_rfl)
          · exact hlow 32 (by kernel_rfl)
          · exact hlow 33 (by kernel_rfl)
          · exact hlow 34 (by kernel_rfl)
          · exact hlow 35 (by kernel_rfl)
          · exact hlow 36 (by kernel_rfl)
          · exact hlow 37 (by kernel_rfl)
          · exact hval 0 _ 38 rfl rfl
          · exact hval 1 _ 39 rfl rfl
          · exact hval 2 _ 40 rfl rfl
          · exact hval 3 _ 41 rfl rfl
          · exact hval 4 _ 42 rfl rfl
          · exact hval 5 _ 43 rfl rfl
          · exact hval 6 _ 44 rfl rfl
          · exact hval 7 _ 45 rfl rfl
          · exact hval 8 _ 46 rfl rfl
          · exact hlow 47 (by kernel_rfl)
        subst ht
        clear hlow hval hsz
        obtain rfl := hS.2 (hall 7 (by decide))
        clear hS hall
        go_wp2
        go_roundw
        case rel => exact ⟨_, _, _, _, _, _, _, _, _, _, _, _, _, _, ⟨n + k, by omega, by omega, by go_num, H4.out.1, H4.out.2⟩, rfl⟩
        case measure => simp [intOf]; omega
      · intro L a w' kk op hLs ho hLi hLd hLn hS hlow hdep hold
        have hkk : kk < 10 := (Array.getElem?_eq_some_iff.1 ho).1
        have l7 : a.tmps[7]?.getD undef = .slice (some ⟨w.heap.size, 0, none⟩) m m := by rw [← Array.getD_eq_getD_getElem?]; exact hlow 7 (by kernel_rfl)
        have D : ∀ j oj d, edgeB _ kk j = true → _ → _ → a.tmps[d]?.getD undef = _ := fun j oj d h1 h2 h3 => (Array.getD_eq_getD_getElem? ..).symm.trans (hdep j oj d h1 h2 h3)
        rcases (by omega : kk = 0 ∨ kk = 1 ∨ kk = 2 ∨ kk = 3 ∨ kk = 4 ∨ kk = 5 ∨ kk = 6 ∨ kk = 7 ∨ kk = 8 ∨ kk = 9) with rfl | rfl | rfl | rfl | rfl | rfl | rfl | rfl | rfl | rfl
        · obtain rfl := Option.some.inj ho
          have l8 : a.tmps[8]?.getD undef = .int .i64 (n : Int) := (Array.getD_eq_getD_getElem? ..).symm.trans (hold 9 _ 8 (by kernel_rfl) rfl rfl)
          exact ⟨rfl, .inl ⟨w', by simp [execOp, Act.eval, l8, go_sem], keepL7 (by decide) hS⟩⟩
        · obtain rfl := Option.some.inj ho
          exact ⟨rfl, .inl ⟨w', by simp [execOp, Act.eval, l7, go_sem], keepL7 (by decide) hS⟩⟩
        · obtain rfl := Option.some.inj ho
          have l8 : a.tmps[8]?.getD undef = .int .i64 (n : Int) := (Array.getD_eq_getD_getElem? ..).symm.trans (hold 9 _ 8 (by kernel_rfl) rfl rfl)
          exact ⟨rfl, .inl ⟨w', by simp [execOp, Act.eval, l8, go_sem], keepL7 (by decide) hS⟩⟩
        · obtain rfl := Option.some.inj ho
          have e39 : a.tmps[39]?.getD undef = .slice (some ⟨w.heap.size, 0, none⟩) m m := D 1 _ 39 (by kernel_rfl) rfl rfl
          have e40 : a.tmps[40]?.getD undef = .int .i64 (n : Int) := D 2 _ 40 (by kernel_rfl) rfl rfl
          exact ⟨rfl, .inl ⟨w', by simp [execOp, Act.eval, e39, e40, hne, hn0, hnm, go_sem], keepL7 (by decide) hS⟩⟩
        · obtain rfl := Option.some.inj ho
          exact ⟨rfl, .inl ⟨w', by simp [execOp, Act.eval, l7, go_sem], keepL7 (by decide) hS⟩⟩
        · obtain rfl := Option.some.inj ho
          have l8 : a.tmps[8]?.getD undef = .int .i64 (n : Int) := (Array.getD_eq_getD_getElem? ..).symm.trans (hold 9 _ 8 (by kernel_rfl) rfl rfl)
          exact ⟨rfl, .inl ⟨w', by simp [execOp, Act.eval, l8, go_sem], keepL7 (by decide) hS⟩⟩
        · obtain rfl := Option.some.inj ho
          have e42 : a.tmps[42]?.getD undef = .slice (some ⟨w.heap.size, 0, none⟩) m m := D 4 _ 42 (by kernel_rfl) rfl rfl
          have e43 : a.tmps[43]?.getD undef = .int .i64 (n : Int) := D 5 _ 43 (by kernel_rfl) rfl rfl
          exact ⟨rfl, .inl ⟨w', by simp [execOp, Act.eval, e42, e43, hn0, hnm, go_sem], keepL7 (by decide) hS⟩⟩
        · obtain rfl := Option.some.inj ho
          have e41 : a.tmps[41]?.getD undef = .slice (some ⟨w.heap.size, n, none⟩) (m - n) (m - n) := D 3 _ 41 (by kernel_rfl) rfl rfl
          have e44 : a.tmps[44]?.getD undef = .slice (some ⟨w.heap.size, 0, none⟩) n m := D 6 _ 44 (by kernel_rfl) rfl rfl
          obtain rfl : w' = wr.drew := hS.1 hLi
          have h1 := HCP.out
          exact ⟨rfl, .inl ⟨w5, by simp [execOp, Act.eval, e41, e44, resolve, invoke, builtin, h1, Result.andThen], setL7 hLs rfl⟩⟩
        · obtain rfl := Option.some.inj ho
          have e38 : a.tmps[38]?.getD undef = .int .i64 (n : Int) := D 0 _ 38 (by kernel_rfl) rfl rfl
          have e45 : a.tmps[45]?.getD undef = .int .i64 (k : Int) := D 7 _ 45 (by kernel_rfl) rfl rfl
          exact ⟨rfl, .inl ⟨w', by simp [execOp, Act.eval, e38, e45, hwr, go_sem], keepL7 (by decide) hS⟩⟩
        · obtain rfl := Option.some.inj ho
          have e46 : a.tmps[46]?.getD undef = .int .i64 ((n : Int) + k) := D 8 _ 46 (by kernel_rfl) rfl rfl
          exact ⟨rfl, .inl ⟨w', by simp [execOp, Act.eval, e46, go_sem], keepL7 (by decide) hS⟩⟩
    · obtain rfl : n = m := by omega
      rw [repW_all] at hB
      go_wp2
      go_ret
      exact ⟨_, rfl, Nat.le_refl _, hB.out, hb.out⟩
set_option maxRecDepth 100000 in
set_option maxHeartbeats 1000000 in
theorem repeat_none (A : Addr) (cA : Nat) (w : World) :
    Calls Tryd.prog 108 #[.slice (some A) 1 cA, .int .i64 0] w fun e w' => ∃ g, e = .returned (.slice (some ⟨g, 0, none⟩) 0 0) ∧ w.heap.size ≤ g ∧ BlockIs w' g 3 (ic (List.replicate 0 1000)).toArray ∧ Below w.heap.size w w' := by
  have HMUL : Hid (∀ W : World, Calls Tryd.prog 106 #[.int .u64 1, .int .u64 0] W fun e w' => e = .returned (.tuple #[.int .u64 0, .int .u64 0]) ∧ w' = W) := fun W => by
    have h := Tryd.bits_Mul 1 0 (by omega) (by omega) W
    rw [show 1 * 0 / 18446744073709551616 = 0 by omega, show 1 * 0 % 18446744073709551616 = 0 by omega] at h
    exact h
  have hmk := run_make_row' (P := Tryd.prog) 23 3 (.int .i64 0) 8 Tryd.underlying23 infoI rfl .i64 .i64 0 (by omega) (by omega)
  have hmk0 : ∀ W : World, (Instr.makeSlice 23 (.int .i64 0) (.int .i64 0)).run Tryd.prog W = .ok (.slice (some ⟨W.heap.size, 0, none⟩) 0 0) (W.alloc (.cells (madeCells #[.int .i64 0] 0) 3)) := fun W => hmk W
  clear hmk
  have h1 : BlockIs (w.alloc (.cells (madeCells #[.int .i64 0] 0) 3)) w.heap.size 3 #[] := (BlockIs.new w 3 (madeCells #[.int .i64 0] 0)).to (by simp [madeCells])
  have h2 := (Below.refl w.heap.size w).alloc (Nat.le_refl _) (.cells (madeCells #[.int .i64 0] 0) 3)
  have hcp := run_copy_row (P := Tryd.prog) (ty := 3) (w.alloc (.cells (madeCells #[.int .i64 0] 0) 3)) 23 23 3 w.heap.size 0 0 0 A 1 cA #[] 3 [] Tryd.underlying23 infoI1 h1 (by show 0 = min 1 0; omega) (fun j v hj => by simp at hj) (by simp) (by simp)
  have h3 := below_setRow h2 (Nat.le_refl _) #[]
  have h4 : BlockIs ((w.alloc (.cells (madeCells #[.int .i64 0] 0) 3)).setRow w.heap.size #[]) w.heap.size 3 #[] := setRow_heap _ _ _ _ _ _ h1
  have H4 := Lib.hid (And.intro h3 h4)
  have HCP := Lib.hid hcp
  clear h1 h2 h3 h4 hcp
  go_enter Tryd.func108, Tryd.ntmps108
  go_wp2_with fail
  refine (HMUL.out _).mono ?_
  rintro e w' ⟨rfl, hww⟩
  obtain rfl := hww.symm
  go_wp2
  rw [HCP.out]
  show Oper.upon _ _ _ _ _ ((Result.ok (goInt 0) ((w.alloc (.cells (madeCells #[.int .i64 0] 0) 3)).setRow w.heap.size #[])).andThen _)
  generalize World.setRow _ _ _ = w4 at *
  clear HCP
  go_wp2
  refine wp_loop_rounds 1 ?_
  rw [rounds_succ]
  go_wp2
  go_ret
  exact ⟨w.heap.size, rfl, Nat.le_refl _, H4.out.2, H4.out.1⟩
end Go.Proofs.YtjemjdlaoebffaaDoor

end
section
namespace Go.Proofs.YtjemjdlaoebffaaDoor
set_option linter.unusedSimpArgs false
set_option linter.unusedVariables false
open Go.RowKit
structure LeftV where
  v : Value
  g : Nat
  c : Nat
def LeftOk (H : Nat) (ord : List Nat) (x : LeftV) (W : World) : Prop := (∃ A c, x.v = .slice A ord.length c) ∧ (0 < ord.length → x.v = .slice (some ⟨x.g, 0, none⟩) ord.length x.c ∧ x.c ≤ maxLen ∧ H ≤ x.g ∧ ∃ cur : Array Value, BlockIs W x.g 3 cur ∧ cur.size = x.c ∧ ord.length ≤ x.c ∧ ∀ j, j < ord.length → cur[j]? = (ic (natI ord))[j]?)
theorem LeftOk.below {H : Nat} {ord : List Nat} {x : LeftV} {W W' : World} (h : LeftOk H ord x W) (hb : Below W.heap.size W W') : LeftOk H ord x W' := ⟨h.1, fun hp => by
  obtain ⟨h1, h2, h3, cur, h4, h5⟩ := h.2 hp
  exact ⟨h1, h2, h3, cur, h4.below hb, h5⟩⟩
theorem LeftOk.lower {H H' : Nat} {ord : List Nat} {x : LeftV} {W : World} (h : LeftOk H ord x W) (hH : H' ≤ H) : LeftOk H' ord x W := ⟨h.1, fun hp => by
  obtain ⟨h1, h2, h3, h4⟩ := h.2 hp
  exact ⟨h1, h2, Nat.le_trans hH h3, h4⟩⟩
theorem eql_none (w : World) (l c : Nat) : (binOp BinOp.eql 23 (.slice none l c) (.slice none 0 0)).run Tryd.prog w = .ok (.bool true) w := by
  simp [binOp, run_equal_slice_nil w 23 3 none l c Tryd.underlying23, Result.andThen]
set_option maxRecDepth 100000 in
theorem cloneL (D : Option Addr) (d : Nat) (ord : List Nat) (W : World) (hr : Row W D (ic (natI ord))) (hn : ord.length ≤ 1000) : Calls Tryd.prog 107 #[.slice D ord.length d] W fun e w' => ∃ x : LeftV, e = .returned x.v ∧ LeftOk W.heap.size ord x w' ∧ Below W.heap.size W w' := by
  have hnl : (natI ord).length = ord.length := by simp
  cases D with
  | none =>
    have h0 : ord.length = 0 := by
      by_cases h : 0 < ord.length
      · obtain ⟨ad, h1, _⟩ := hr.int (k := 0) (by rw [hnl]; exact h)
        cases h1
      · omega
    have HL : Hid (LeftOk W.heap.size ord ⟨.slice none 0 0, 0, 0⟩ W) := ⟨⟨none, 0, by rw [h0]⟩, fun h => by omega⟩
    rw [h0]
    clear h0 hr hnl hn
    have heq := eql_none W 0 d
    go_enter Tryd.func107, Tryd.ntmps107
    go_wp2
    go_ret
    exact ⟨_, rfl, HL.out, Below.refl _ _⟩
  | some ad =>
    have h := clone_some ad d (natI ord) W hr (by rw [hnl]; omega)
    rw [hnl] at h
    refine h.mono ?_
    rintro e w' ⟨ad', c', rfl, ho, hb⟩
    by_cases h0 : 0 < ord.length
    · obtain ⟨g, cur, hA, hg, hB, h1, h2, h3, h4⟩ := own_block ho h0
      injection hA with hA
      subst hA
      refine ⟨⟨_, g, c'⟩, rfl, ⟨⟨_, _, rfl⟩, fun _ => ⟨rfl, h2, hg, cur, hB, by rw [h3, Nat.mul_one], h1, fun j hj => ?_⟩⟩, hb⟩
      rw [← h4, ← Array.getElem?_toList, List.getElem?_take_of_lt (by omega)]
    · exact ⟨⟨_, 0, c'⟩, rfl, ⟨⟨_, _, rfl⟩, fun h => absurd h h0⟩, hb⟩
structure Lq where
  L : LeftV
  gF : Nat
  gB : Nat
  gE : Nat
  gP : Nat
  G : Nat
def lqC (J : Value) (n : Nat) (B : Nat → Nat) (m : Nat) (x : Lq) : Array Value := #[J, .int .i64 (n : Int), .int .u64 (B 0 : Int), .int .u64 (B 1 : Int), .int .u64 (B 2 : Int), .int .u64 (B 3 : Int), .int .u64 (B 4 : Int), .int .u64 (B 5 : Int), .int .u64 (B 6 : Int), .int .u64 (B 7 : Int), x.L.v, .slice (some ⟨x.gF, 0, none⟩) m m, .slice (some ⟨x.gE, 0, none⟩) n n, .slice (some ⟨x.gP, 0, none⟩) n n]
def lqZ : Array Value := #[.slice none 0 0, .int .i64 0, .int .u64 0, .int .u64 0, .int .u64 0, .int .u64 0, .int .u64 0, .int .u64 0, .int .u64 0, .int .u64 0, .slice none 0 0, .slice none 0 0, .slice none 0 0, .slice none 0 0]
/-- What has been made of a maker. -/
def LqS (w0 : World) (b : Nat) (wl : Array Value) (J : Value) (n : Nat) (B : Nat → Nat) (m : Nat) (ord : List Nat) (x : Lq) (L : Array Bool) (W : World) : Prop :=
  Below w0.heap.size w0 W ∧ BlockIs W b 83 wl ∧
  (L.getD 2 true = true → LeftOk w0.heap.size ord x.L W) ∧
  (L.getD 4 true = true → w0.heap.size ≤ x.gF ∧ BlockIs W x.gF 3 (ic (List.replicate m 0)).toArray) ∧
  (L.getD 5 true = true → BlockIs W x.gB 3 #[.int .i64 1000]) ∧
  (L.getD 8 true = true → w0.heap.size ≤ x.gE ∧ BlockIs W x.gE 3 (ic (List.replicate n 1000)).toArray) ∧
  (L.getD 11 true = true → w0.heap.size ≤ x.gP ∧ BlockIs W x.gP 96 (spc (List.replicate n ⟨0, 0, 0⟩)).toArray) ∧
  (L.getD 13 true = true → w0.heap.size ≤ x.G ∧ BlockIs W x.G 150 (if L.getD 14 true = true then lqC J n B m x else lqZ)) ∧
  (L.getD 2 true = true → L.getD 4 true = true → 0 < ord.length → x.L.g ≠ x.gF) ∧
  (L.getD 2 true = true → L.getD 8 true = true → 0 < ord.length → x.L.g ≠ x.gE) ∧
  (L.getD 4 true = true → L.getD 8 true = true → x.gF ≠ x.gE)
section
variable {w0 : World} {b : Nat} {wl : Array Value} {J : Value} {n m : Nat} {B : Nat → Nat} {ord : List Nat} {x : Lq} {L : Array Bool} {W W' : World}
theorem LqS.below (h : LqS w0 b wl J n B m ord x L W) (hb : Below W.heap.size W W') : LqS w0 b wl J n B m ord x L W' := by
  obtain ⟨h0, h1, h2, h4, h5, h8, h11, h13, d⟩ := h
  exact ⟨h0.trans (hb.mono h0.size), h1.below hb, fun e => (h2 e).below hb, fun e => ⟨(h4 e).1, (h4 e).2.below hb⟩, fun e => (h5 e).below hb, fun e => ⟨(h8 e).1, (h8 e).2.below hb⟩, fun e => ⟨(h11 e).1, (h11 e).2.below hb⟩, fun e => ⟨(h13 e).1, (h13 e).2.below hb⟩, d⟩
theorem LqS.other (h : LqS w0 b wl J n B m ord x L W) {i : Nat} (i2 : i ≠ 2) (i4 : i ≠ 4) (i5 : i ≠ 5) (i8 : i ≠ 8) (i11 : i ≠ 11) (i13 : i ≠ 13) (i14 : i ≠ 14) : LqS w0 b wl J n B m ord x (L.setIfInBounds i true) W := by
  unfold LqS
  rw [listed_ne i2, listed_ne i4, listed_ne i5, listed_ne i8, listed_ne i11, listed_ne i13, listed_ne i14]
  exact h
theorem LqS.setL (h : LqS w0 b wl J n B m ord x L W) (hb : Below W.heap.size W W') {y : LeftV} (hy : LeftOk W.heap.size ord y W') (h14 : L.getD 14 true = false) : LqS w0 b wl J n B m ord { x with L := y } (L.setIfInBounds 2 true) W' := by
  have hH := h.1.size
  obtain ⟨h0, h1, h2, h4, h5, h8, h11, h13, d1, d2, d3⟩ := h.below hb
  unfold LqS
  rw [listed_ne (i := 2) (j := 4) (by decide), listed_ne (i := 2) (j := 5) (by decide), listed_ne (i := 2) (j := 8) (by decide), listed_ne (i := 2) (j := 11) (by decide), listed_ne (i := 2) (j := 13) (by decide), listed_ne (i := 2) (j := 14) (by decide)]
  exact ⟨h0, h1, fun _ => hy.lower hH, h4, h5, h8, h11, fun e => by rw [if_neg (by rw [h14]; decide)]; have := h13 e; rw [if_neg (by rw [h14]; decide)] at this; exact this, fun _ e hp => by obtain ⟨_, _, hg, _⟩ := hy.2 hp; have := (h.2.2.2.1 e).2.lt; show y.g ≠ x.gF; omega, fun _ e hp => by obtain ⟨_, _, hg, _⟩ := hy.2 hp; have := (h.2.2.2.2.2.1 e).2.lt; show y.g ≠ x.gE; omega, d3⟩
theorem LqS.setF (h : LqS w0 b wl J n B m ord x L W) (hb : Below W.heap.size W W') {g : Nat} (hg : W.heap.size ≤ g) (hB : BlockIs W' g 3 (ic (List.replicate m 0)).toArray) (h14 : L.getD 14 true = false) : LqS w0 b wl J n B m ord { x with gF := g } (L.setIfInBounds 4 true) W' := by
  have hH := h.1.size
  obtain ⟨h0, h1, h2, h4, h5, h8, h11, h13, d1, d2, d3⟩ := h.below hb
  unfold LqS
  rw [listed_ne (i := 4) (j := 2) (by decide), listed_ne (i := 4) (j := 5) (by decide), listed_ne (i := 4) (j := 8) (by decide), listed_ne (i := 4) (j := 11) (by decide), listed_ne (i := 4) (j := 13) (by decide), listed_ne (i := 4) (j := 14) (by decide)]
  exact ⟨h0, h1, h2, fun _ => ⟨Nat.le_trans hH hg, hB⟩, h5, h8, h11, fun e => by rw [if_neg (by rw [h14]; decide)]; have := h13 e; rw [if_neg (by rw [h14]; decide)] at this; exact this, fun e _ hp => by have := (show x.L.g < W.heap.size by obtain ⟨_, _, _, cur, hc, _⟩ := (h.2.2.1 e).2 hp; exact hc.lt); show x.L.g ≠ g; omega, d2, fun _ e => by have := (h.2.2.2.2.2.1 e).2.lt; show g ≠ x.gE; omega⟩
theorem LqS.setB (h : LqS w0 b wl J n B m ord x L W) (hb : Below W.heap.size W W') {g : Nat} (hB : BlockIs W' g 3 #[.int .i64 1000]) (h14 : L.getD 14 true = false) : LqS w0 b wl J n B m ord { x with gB := g } (L.setIfInBounds 5 true) W' := by
  have hH := h.1.size
  obtain ⟨h0, h1, h2, h4, h5, h8, h11, h13, d1, d2, d3⟩ := h.below hb
  unfold LqS
  rw [listed_ne (i := 5) (j := 2) (by decide), listed_ne (i := 5) (j := 4) (by decide), listed_ne (i := 5) (j := 8) (by decide), listed_ne (i := 5) (j := 11) (by decide), listed_ne (i := 5) (j := 13) (by decide), listed_ne (i := 5) (j := 14) (by decide)]
  exact ⟨h0, h1, h2, h4, fun _ => hB, h8, h11, fun e => by rw [if_neg (by rw [h14]; decide)]; have := h13 e; rw [if_neg (by rw [h14]; decide)] at this; exact this, d1, d2, d3⟩
theorem LqS.setE (h : LqS w0 b wl J n B m ord x L W) (hb : Below W.heap.size W W') {g : Nat} (hg : W.heap.size ≤ g) (hB : BlockIs W' g 3 (ic (List.replicate n 1000)).toArray) (h14 : L.getD 14 true = false) : LqS w0 b wl J n B m ord { x with gE := g } (L.setIfInBounds 8 true) W' := by
  have hH := h.1.size
  obtain ⟨h0, h1, h2, h4, h5, h8, h11, h13, d1, d2, d3⟩ := h.below hb
  unfold LqS
  rw [listed_ne (i := 8) (j := 2) (by decide), listed_ne (i := 8) (j := 4) (by decide), listed_ne (i := 8) (j := 5) (by decide), listed_ne (i := 8) (j := 11) (by decide), listed_ne (i := 8) (j := 13) (by decide), listed_ne (i := 8) (j := 14) (by decide)]
  exact ⟨h0, h1, h2, h4, h5, fun _ => ⟨Nat.le_trans hH hg, hB⟩, h11, fun e => by rw [if_neg (by rw [h14]; decide)]; have := h13 e; rw [if_neg (by rw [h14]; decide)] at this; exact this, d1, fun e _ hp => by have := (show x.L.g < W.heap.size by obtain ⟨_, _, _, cur, hc, _⟩ := (h.2.2.1 e).2 hp; exact hc.lt); show x.L.g ≠ g; omega, fun e _ => by have := (h.2.2.2.1 e).2.lt; show x.gF ≠ g; omega⟩
theorem LqS.setP (h : LqS w0 b wl J n B m ord x L W) (hb : Below W.heap.size W W') {g : Nat} (hg : W.heap.size ≤ g) (hB : BlockIs W' g 96 (spc (List.replicate n ⟨0, 0, 0⟩)).toArray) (h14 : L.getD 14 true = false) : LqS w0 b wl J n B m ord { x with gP := g } (L.setIfInBounds 11 true) W' := by
  have hH := h.1.size
  obtain ⟨h0, h1, h2, h4, h5, h8, h11, h13, d1, d2, d3⟩ := h.below hb
  unfold LqS
  rw [listed_ne (i := 11) (j := 2) (by decide), listed_ne (i := 11) (j := 4) (by decide), listed_ne (i := 11) (j := 5) (by decide), listed_ne (i := 11) (j := 8) (by decide), listed_ne (i := 11) (j := 13) (by decide), listed_ne (i := 11) (j := 14) (by decide)]
  exact ⟨h0, h1, h2, h4, h5, h8, fun _ => ⟨Nat.le_trans hH hg, hB⟩, fun e => by rw [if_neg (by rw [h14]; decide)]; have := h13 e; rw [if_neg (by rw [h14]; decide)] at this; exact this, d1, d2, d3⟩
theorem LqS.setG (h : LqS w0 b wl J n B m ord x L W) (hb : Below W.heap.size W W') {g : Nat} (hg : W.heap.size ≤ g) (hB : BlockIs W' g 150 lqZ) (h14 : L.getD 14 true = false) : LqS w0 b wl J n B m ord { x with G := g } (L.setIfInBounds 13 true) W' := by
  have hH := h.1.size
  obtain ⟨h0, h1, h2, h4, h5, h8, h11, h13, d1, d2, d3⟩ := h.below hb
  unfold LqS
  rw [listed_ne (i := 13) (j := 2) (by decide), listed_ne (i := 13) (j := 4) (by decide), listed_ne (i := 13) (j := 5) (by decide), listed_ne (i := 13) (j := 8) (by decide), listed_ne (i := 13) (j := 11) (by decide), listed_ne (i := 13) (j := 14) (by decide)]
  exact ⟨h0, h1, h2, h4, h5, h8, h11, fun _ => ⟨Nat.le_trans hH hg, by rw [if_neg (by rw [h14]; decide)]; exact hB⟩, d1, d2, d3⟩
theorem LqS.store (h : LqS w0 b wl J n B m ord x L W) (hs : L.size = 15) (h13 : L.getD 13 true = true) : LqS w0 b wl J n B m ord x (L.setIfInBounds 14 true) (W.setRow x.G (lqC J n B m x)) := by
  obtain ⟨h0, h1, h2, h4, h5, h8, h11, hh, d⟩ := h
  obtain ⟨hG, hGB⟩ := hh h13
  have hne : ∀ {g : Nat} {t : TypeId} {cs : Array Value}, BlockIs W g t cs → t ≠ 150 → BlockIs (W.setRow x.G (lqC J n B m x)) g t cs := fun hg ht => (setRow_other _ _ _ _ (type_ne hg hGB ht)).trans hg
  unfold LqS
  rw [listed_ne (i := 14) (j := 2) (by decide), listed_ne (i := 14) (j := 4) (by decide), listed_ne (i := 14) (j := 5) (by decide), listed_ne (i := 14) (j := 8) (by decide), listed_ne (i := 14) (j := 11) (by decide), listed_ne (i := 14) (j := 13) (by decide)]
  refine ⟨below_setRow h0 hG _, hne h1 (by decide), fun e => ⟨(h2 e).1, fun hp => ?_⟩, fun e => ⟨(h4 e).1, hne (h4 e).2 (by decide)⟩, fun e => hne (h5 e) (by decide), fun e => ⟨(h8 e).1, hne (h8 e).2 (by decide)⟩, fun e => ⟨(h11 e).1, hne (h11 e).2 (by decide)⟩, fun _ => ⟨hG, ?_⟩, d⟩
  · obtain ⟨a1, a2, a3, cur, a4, a5⟩ := (h2 e).2 hp
    exact ⟨a1, a2, a3, cur, hne a4 (by decide), a5⟩
  · rw [if_pos (by rw [getD_set_true, if_pos ⟨rfl, by rw [hs]; decide⟩])]
    exact setRow_heap _ _ _ _ _ _ hGB
end
theorem exec_store14 {o : Oper} {ev : Operand → Value} {X Y : Operand} {g : Nat} {cs ds : Array Value} {w : World} (ho : o.op = .store 150 X Y) (hx : ev X = .pointer (some ⟨g, 0, none⟩)) (hy : ev Y = .agg ds) (h : BlockIs w g 150 cs) (hc : cs.size = 14) (hs : ds.size = 14) (h1 : ds.all (·.oneCell') = true) :
    (execOp ev o).run Tryd.prog w = .ok .skip (w.setRow g ds) := by
  have hst := run_storeVar_row (P := Tryd.prog) w g 150 150 cs ds h (by rw [hs]; kernel_rfl) (by rw [hc, hs]) h1
  unfold execOp
  simp only [ho, hx, hy, Instr.storeAt, Instr.sureAddr, Sem.run_bind, Sem.run_pure, Result.andThen_ok, hst]
theorem one14 {n m : Nat} {B : Nat → Nat} {x : Lq} {AV : Option Addr} {l cV : Nat} {AA : Option Addr} {k c : Nat} (hv : x.L.v = .slice AV l cV) : (lqC (.slice AA k c) n B m x).all (·.oneCell') = true := by
  unfold lqC
  rw [hv]
  simp [Value.oneCell']
theorem inv_step {L : Array Bool} {k : Nat} (h1 : L.getD 14 true = true → L.getD 12 true = true) (h2 : L.getD 12 true = true → L.getD 8 true = true ∧ L.getD 2 true = true) (a : k = 14 → L.getD 12 true = true) (b : k = 12 → L.getD 8 true = true ∧ L.getD 2 true = true) : ((L.setIfInBounds k true).getD 14 true = true → (L.setIfInBounds k true).getD 12 true = true) ∧ ((L.setIfInBounds k true).getD 12 true = true → (L.setIfInBounds k true).getD 8 true = true ∧ (L.setIfInBounds k true).getD 2 true = true) := by
  rw [getD_set_true, getD_set_true, getD_set_true, getD_set_true]
  constructor
  · intro h
    by_cases e : k = 12 ∧ 12 < L.size
    · rw [if_pos e]
    · rw [if_neg e]
      by_cases e2 : k = 14 ∧ 14 < L.size
      · exact a e2.1
      · rw [if_neg e2] at h; exact h1 h
  · intro h
    have hp : L.getD 8 true = true ∧ L.getD 2 true = true := by
      by_cases e2 : k = 12 ∧ 12 < L.size
      · exact b e2.1
      · rw [if_neg e2] at h; exact h2 h
    constructor
    · split
      · rfl
      · exact hp.1
    · split
      · rfl
      · exact hp.2
set_option maxRecDepth 100000 in
set_option maxHeartbeats 8000000 in
theorem listPlan_any (A D : Option Addr) (c d : Nat) (js : List J) (E : List Pr) (m : Nat) (ord : List Nat) (w : World) (hr : Row w A (jc js)) (ho : Row w D (ic (natI ord))) (hok : ∀ j ∈ js, okJ j = true) (h8 : js.length ≤ 8) (hirr : irrB js.length E js.length = true) (hm : 1 ≤ m ∧ m ≤ 4) (hp : ord.Perm (List.range js.length)) :
    Calls Tryd.prog 61 #[.agg (wlC (.slice A js.length c) (js.length : Int) (befN js.length (tabB js.length E))), .int .i64 (m : Int), .slice D ord.length d] w fun e w' => ∃ g, e = .returned (.slice (some ⟨g, 0, none⟩) js.length js.length) ∧ w.heap.size ≤ g ∧ BlockIs w' g 96 (spc (listL js (tabB js.length E) ord m)).toArray ∧ Below w.heap.size w w' := by
  obtain ⟨hol, hnd, hord, hall⟩ := perm_parts hp
  have HRUNS := Lib.hid (fun (now : Int) (s : LsS) (h : OkL js m now s) (hl : leftL ord s.ends ≠ []) => runs_after h hok h8 hord hall hirr (by omega) hl)
  have HOK := Lib.hid hok
  have HORD := Lib.hid hord
  have HND := Lib.hid hnd
  have HOL := Lib.hid hol
  have HR := Lib.hid hr
  have HO := Lib.hid ho
  clear hok hord hnd hirr hall hp hr ho
  obtain ⟨T, hT⟩ : ∃ T, tabB js.length E = T := ⟨_, rfl⟩
  rw [hT] at HRUNS ⊢
  clear hT
  have HRES : Hid (listL js T ord m = runL js T ord m 1001 0 (initL js.length m)) := rfl
  generalize listL js T ord m = RES at HRES ⊢
  obtain ⟨B, hB⟩ : ∃ B, befN js.length T = B := ⟨_, rfl⟩
  have HB := Lib.hid hB
  rw [hB]
  clear hB
  have hb1 := (Below.refl w.heap.size w).alloc (Nat.le_refl _) (.cells (wlC (.slice A js.length c) (js.length : Int) B) 83)
  have hB1 := BlockIs.new w 83 (wlC (.slice A js.length c) (js.length : Int) B)
  have H1 := Lib.hid (And.intro hb1.drew hB1.drew)
  have HMF := Lib.hid (run_make_row' (P := Tryd.prog) 23 3 (.int .i64 0) 8 Tryd.underlying23 infoI rfl .i64 .i64 m (by omega) (by omega))
  have HMP := Lib.hid (run_make_rows (P := Tryd.prog) 44 96 (.agg #[.int .i64 0, .int .i64 0, .int .i64 0]) 3 24 Tryd.underlying44 infoSp .i64 .i64 js.length (by omega) (by omega))
  have ew : wlC (.slice A js.length c) (js.length : Int) B = #[.slice A js.length c, .int .i64 (js.length : Int), .int .u64 (B 0 : Int), .int .u64 (B 1 : Int), .int .u64 (B 2 : Int), .int .u64 (B 3 : Int), .int .u64 (B 4 : Int), .int .u64 (B 5 : Int), .int .u64 (B 6 : Int), .int .u64 (B 7 : Int)] := rfl
  rw [ew] at hb1 hB1 ⊢
  clear hb1 hB1 hol
  go_enter Tryd.func61, Tryd.ntmps61
  go_wp2
  rw [← ew]

  refine wp_region_detP (γ := Lq) (by kernel_rfl) (fun x L W => LqS w w.heap.size (wlC (.slice A js.length c) (js.length : Int) B) (.slice A js.length c) js.length B m ord x L W ∧ (L.getD 14 true = true → L.getD 12 true = true) ∧ (L.getD 12 true = true → L.getD 8 true = true ∧ L.getD 2 true = true)) (fun x kk => (#[.agg (wlC (.slice A js.length c) (js.length : Int) B), .slice D ord.length d, x.L.v, .int .i64 (m : Int), .slice (some ⟨x.gF, 0, none⟩) m m, .slice (some ⟨x.gB, 0, none⟩) 1 1, .slice D ord.length d, .int .i64 (js.length : Int), .slice (some ⟨x.gE, 0, none⟩) js.length js.length, .slice D ord.length d, .int .i64 (js.length : Int), .slice (some ⟨x.gP, 0, none⟩) js.length js.length, .agg (lqC (.slice A js.length c) js.length B m x), .pointer (some ⟨x.G, 0, none⟩), undef] : Array Value).getD kk undef) ⟨⟨undef, 0, 0⟩, 0, 0, 0, 0, 0⟩ (by kernel_rfl) (by kernel_rfl) ⟨⟨H1.out.1, H1.out.2, fun h => absurd (h.symm.trans (rep_getD 15 2 (by decide))) (by decide), fun h => absurd (h.symm.trans (rep_getD 15 4 (by decide))) (by decide), fun h => absurd (h.symm.trans (rep_getD 15 5 (by decide))) (by decide), fun h => absurd (h.symm.trans (rep_getD 15 8 (by decide))) (by decide), fun h => absurd (h.symm.trans (rep_getD 15 11 (by decide))) (by decide), fun h => absurd (h.symm.trans (rep_getD 15 13 (by decide))) (by decide), fun h => absurd (h.symm.trans (rep_getD 15 2 (by decide))) (by decide), fun h => absurd (h.symm.trans (rep_getD 15 2 (by decide))) (by decide), fun h => absurd (h.symm.trans (rep_getD 15 4 (by decide))) (by decide)⟩, fun h => absurd (h.symm.trans (rep_getD 15 14 (by decide))) (by decide), fun h => absurd (h.symm.trans (rep_getD 15 12 (by decide))) (by decide)⟩ ?_ ?_
  · intro x L W hall hS
    have HS := Lib.hid hS
    have HL : Hid (L.getD 2 true = true ∧ L.getD 4 true = true ∧ L.getD 8 true = true ∧ L.getD 11 true = true ∧ L.getD 13 true = true ∧ L.getD 14 true = true) := ⟨hall 2 (by show 2 < 15; decide), hall 4 (by show 4 < 15; decide), hall 8 (by show 8 < 15; decide), hall 11 (by show 11 < 15; decide), hall 13 (by show 13 < 15; decide), hall 14 (by show 14 < 15; decide)⟩
    clear hS hall H1 HMF HMP HO
    simp only [putsL]
    obtain ⟨h0, _, h2, h4, _, h8', h11, h13, d1, d2, d3⟩ := HS.out.1
    obtain ⟨l2, l4, l8, l11, l13, l14⟩ := HL.out
    have hLO := h2 l2
    obtain ⟨hgF, hF⟩ := h4 l4
    obtain ⟨hgE, hE⟩ := h8' l8
    obtain ⟨hgP, hP⟩ := h11 l11
    obtain ⟨hG0, hG⟩ := h13 l13
    rw [if_pos l14] at hG
    obtain ⟨AL, cL, hv⟩ := hLO.1
    by_cases hn0 : js.length = 0
    · have c10 := hG.cell 10
      have c13 := hG.cell 13
      simp only [lqC, List.getElem?_toArray, List.getElem?_cons_zero, List.getElem?_cons_succ] at c10 c13
      rw [hv, HOL.out, hn0] at c10
      have hol : ord = [] := List.length_eq_zero_iff.1 (HOL.out.trans hn0)
      have HPL := Lib.hid (run_end HRES.out.symm (by rw [hol]; rfl))
      have HP := Lib.hid (And.intro hP (And.intro hgP h0))
      clear h0 h2 h4 h8' h11 h13 d1 d2 d3 l2 l4 l8 l11 l13 l14 hLO hgF hF hgE hE hgP hP hG0 hG hv hol hn0 HS HL HRUNS
      go_wp2
      refine wp_loop_rounds 1 ?_
      rw [rounds_succ]
      go_wp2
      go_ret
      exact ⟨x.gP, rfl, HP.out.2.1, HP.out.1.to (by rw [← HPL.out]; rfl), HP.out.2.2⟩
    · have hpos : 0 < ord.length := by rw [HOL.out]; omega
      obtain ⟨hv2, hcm, hgL, cur, hcB, hcs, hcl, hcc⟩ := hLO.2 hpos
      have hli : leftL ord (initL js.length m).ends = ord := left_init
      obtain ⟨a, haG, hA0, hL0⟩ : ∃ a : Lm, x.G = a.G ∧ a.Ok w.heap.size ∧ LmW a (.slice A js.length c) js.length B m (leftL ord (initL js.length m).ends).length (leftL ord (initL js.length m).ends) (initL js.length m) W := ⟨⟨x.G, x.L.g, x.gF, x.gE, x.gP, x.L.c⟩, rfl, ⟨hG0, hgL, hgF, hgE, hgP, type_ne hG hcB (by decide), type_ne hG hF (by decide), type_ne hG hE (by decide), type_ne hG hP (by decide), d1 l2 l4 hpos, d2 l2 l8 hpos, type_ne hcB hP (by decide), d3 l4 l8, type_ne hF hP (by decide), type_ne hE hP (by decide), hcm⟩, ⟨hG.to (by unfold lqC lmC; rw [hv2, hli]), ⟨cur, hcB, hcs, by rw [hli]; exact hcl, fun j hj => by rw [hli] at hj ⊢; exact hcc j hj⟩, hF, hE, hP⟩⟩
      have HA := Lib.hid hA0
      have HL0 := Lib.hid (And.intro h0 hL0)
      have HPOS := Lib.hid hpos
      clear h0 h2 h4 h8' h11 h13 d1 d2 d3 l2 l4 l8 l11 l13 l14 hLO hgF hF hgE hE hgP hP hG0 hG hv hv2 hcm hgL hcB hcs hcl hcc HS HL hA0 hL0 hli hpos
      rw [haG]
      clear haG
      go_wp2
      go_loopw [8] (fun nv wr => ∃ (i : Nat) (tt : Int) (s : LsS), Hid (OkL js m tt s) ∧ Hid (runL js T ord m (1001 - i) tt s = RES) ∧ Hid ((i : Int) ≤ tt) ∧ nv = .int .i64 tt ∧ Hid (Below w.heap.size w wr ∧ LmW a (.slice A js.length c) js.length B m (leftL ord s.ends).length (leftL ord s.ends) s wr)) (fun nv _ => 1001 - (intOf nv).toNat)
      case atStart => exact ⟨0, 0, initL js.length m, ok_init, HRES.out.symm, Int.le_refl _, rfl, HL0.out⟩
      case round =>
        obtain ⟨i, tt, s, hOk, hRun, hI, rfl, hW⟩ := hrel
        clear HL0
        by_cases hle : leftL ord s.ends = []
        · have c10 := hW.out.2.1.cell 10
          have c13 := hW.out.2.1.cell 13
          simp only [lmC, List.getElem?_toArray, List.getElem?_cons_zero, List.getElem?_cons_succ] at c10 c13
          rw [hle, List.length_nil] at c10
          have HP := Lib.hid (run_end hRun.out hle)
          clear hRun hI hle
          go_wp2
          go_ret
          exact ⟨a.gP, rfl, HA.out.hP, hW.out.2.2.2.2.2.to (by rw [HP.out]), hW.out.1⟩
        · have hpos : 0 < (leftL ord s.ends).length := List.length_pos_iff.2 hle
          have c10 := hW.out.2.1.cell 10
          simp only [lmC, List.getElem?_toArray, List.getElem?_cons_zero, List.getElem?_cons_succ] at c10
          have hn0' := hOk.out.n0
          have HRA := HRUNS.out tt s hOk.out hle
          have HOq := hOk.out.start (T := T) HOK.out h8 HORD.out m (Nat.le_refl _)
          have HMORE : Hid (∀ f, 1001 - i = f + 1 → runL js T ord m f (soonL (startTo js T ord tt s m).ends tt) (startTo js T ord tt s m) = RES) := fun f hf => run_more (by rw [← hf]; exact hRun.out) hle
          have hSO := soon_out HOq HOK.out h8 HRA
          have hS4 := (hSO.2.bd HOK.out h8).1
          have hS1 := hSO.1
          have HST := Lib.hid (start_any a A c js T ord m tt s w wr HA.out HR.out HOK.out h8 hm HOL.out HND.out HORD.out hOk.out hW.out.1 (by rw [HB.out]; exact hW.out.2))
          rw [HB.out] at HST
          have HOK3 := Lib.hid hSO.2
          have HLEN := Lib.hid HOq.le
          clear hSO HOq HRA hW hRun hle
          generalize startTo js T ord tt s m = q at *
          go_wp2_with fail
          refine HST.out.mono ?_
          rintro e w5 ⟨rfl, hW5, hb5⟩
          have hNE := nextEnd_any a.G a.gE js.length q.ends tt w5 (by rw [hW5.1.cell, HLEN.out]; rfl) (rowOf hW5.2.2.2.1) (by rw [HLEN.out]; exact h8)
          have HNE := Lib.hid hNE
          have HW5 := Lib.hid (And.intro hb5 hW5)
          clear hNE hW5 hb5 HST c10
          generalize soonL q.ends tt = tn at *
          go_wp2_with fail
          refine HNE.out.mono ?_
          rintro e _ ⟨rfl, rfl⟩
          clear HNE
          go_wp2
          go_roundw
          case rel => exact ⟨i + 1, tn, q, HOK3.out, HMORE.out _ (by have := hI.out; omega), by have := hI.out; show _ ≤ _; omega, rfl, HW5.out⟩
          case measure => simp [intOf]; omega
  · intro x L ac W iq op hLs hop hLi hLd hLn ⟨hS, hI1, hI2⟩ hlow hdep
    have hq : iq < 15 := (Array.getElem?_eq_some_iff.1 hop).1
    have val_eq : ∀ (i : Nat) (y : Lq), i ≠ 12 → (∀ j, j < 15 → j ≠ i → j ≠ 12 → (#[.agg (wlC (.slice A js.length c) (js.length : Int) B), .slice D ord.length d, y.L.v, .int .i64 (m : Int), .slice (some ⟨y.gF, 0, none⟩) m m, .slice (some ⟨y.gB, 0, none⟩) 1 1, .slice D ord.length d, .int .i64 (js.length : Int), .slice (some ⟨y.gE, 0, none⟩) js.length js.length, .slice D ord.length d, .int .i64 (js.length : Int), .slice (some ⟨y.gP, 0, none⟩) js.length js.length, .agg (lqC (.slice A js.length c) js.length B m y), .pointer (some ⟨y.G, 0, none⟩), undef] : Array Value).getD j undef = (#[.agg (wlC (.slice A js.length c) (js.length : Int) B), .slice D ord.length d, x.L.v, .int .i64 (m : Int), .slice (some ⟨x.gF, 0, none⟩) m m, .slice (some ⟨x.gB, 0, none⟩) 1 1, .slice D ord.length d, .int .i64 (js.length : Int), .slice (some ⟨x.gE, 0, none⟩) js.length js.length, .slice D ord.length d, .int .i64 (js.length : Int), .slice (some ⟨x.gP, 0, none⟩) js.length js.length, .agg (lqC (.slice A js.length c) js.length B m x), .pointer (some ⟨x.G, 0, none⟩), undef] : Array Value).getD j undef) → L.getD i true = false → L.getD 12 true = false → ∀ j, L.getD j true = true → (#[.agg (wlC (.slice A js.length c) (js.length : Int) B), .slice D ord.length d, y.L.v, .int .i64 (m : Int), .slice (some ⟨y.gF, 0, none⟩) m m, .slice (some ⟨y.gB, 0, none⟩) 1 1, .slice D ord.length d, .int .i64 (js.length : Int), .slice (some ⟨y.gE, 0, none⟩) js.length js.length, .slice D ord.length d, .int .i64 (js.length : Int), .slice (some ⟨y.gP, 0, none⟩) js.length js.length, .agg (lqC (.slice A js.length c) js.length B m y), .pointer (some ⟨y.G, 0, none⟩), undef] : Array Value).getD j undef = (#[.agg (wlC (.slice A js.length c) (js.length : Int) B), .slice D ord.length d, x.L.v, .int .i64 (m : Int), .slice (some ⟨x.gF, 0, none⟩) m m, .slice (some ⟨x.gB, 0, none⟩) 1 1, .slice D ord.length d, .int .i64 (js.length : Int), .slice (some ⟨x.gE, 0, none⟩) js.length js.length, .slice D ord.length d, .int .i64 (js.length : Int), .slice (some ⟨x.gP, 0, none⟩) js.length js.length, .agg (lqC (.slice A js.length c) js.length B m x), .pointer (some ⟨x.G, 0, none⟩), undef] : Array Value).getD j undef := fun i y _ hag hi h12 j hj => by
      by_cases h15 : j < 15
      · exact hag j h15 (fun e => by subst e; rw [hi] at hj; cases hj) (fun e => by subst e; rw [h12] at hj; cases hj)
      · have h1 : 15 ≤ j := by omega
        rw [Array.getD_eq_getD_getElem?, Array.getD_eq_getD_getElem?, Array.getElem?_eq_none (by simpa using h1), Array.getElem?_eq_none (by simpa using h1)]
    rcases (by omega : iq = 0 ∨ iq = 1 ∨ iq = 2 ∨ iq = 3 ∨ iq = 4 ∨ iq = 5 ∨ iq = 6 ∨ iq = 7 ∨ iq = 8 ∨ iq = 9 ∨ iq = 10 ∨ iq = 11 ∨ iq = 12 ∨ iq = 13 ∨ iq = 14) with rfl | rfl | rfl | rfl | rfl | rfl | rfl | rfl | rfl | rfl | rfl | rfl | rfl | rfl | rfl
    · obtain rfl := Option.some.inj hop
      have e3 : ac.tmps[3]?.getD undef = .pointer (some ⟨w.heap.size, 0, none⟩) := (Array.getD_eq_getD_getElem? ..).symm.trans (hlow 3 (by kernel_rfl))
      exact ⟨wanted_free rfl, .inl ⟨x, W, fun _ _ => rfl, exec_load10 (x := .tmp 3) rfl (hlow 3 (by kernel_rfl)) hS.2.1 rfl, ⟨hS.other (by decide) (by decide) (by decide) (by decide) (by decide) (by decide) (by decide), inv_step hI1 hI2 (fun e => absurd e (by decide)) (fun e => absurd e (by decide))⟩⟩⟩
    · obtain rfl := Option.some.inj hop
      have e2 : ac.tmps[2]?.getD undef = .slice D ord.length d := (Array.getD_eq_getD_getElem? ..).symm.trans (hlow 2 (by kernel_rfl))
      exact ⟨wanted_free rfl, .inl ⟨x, W, fun _ _ => rfl, by simp [execOp, Act.eval, e2, go_sem], ⟨hS.other (by decide) (by decide) (by decide) (by decide) (by decide) (by decide) (by decide), inv_step hI1 hI2 (fun e => absurd e (by decide)) (fun e => absurd e (by decide))⟩⟩⟩
    · obtain rfl := Option.some.inj hop
      have e10 : ac.tmps[10]?.getD undef = .slice D ord.length d := (Array.getD_eq_getD_getElem? ..).symm.trans (hdep 1 _ 10 (by kernel_rfl) rfl rfl)
      have h14 : L.getD 14 true = false := by
        cases h : L.getD 14 true
        · rfl
        · exact absurd (hI1 h) (by rw [hLn 12 (by kernel_rfl)]; decide)
      have hC := cloneL D d ord W (HO.out.below hS.1) (by rw [HOL.out]; omega)
      refine ⟨wanted_free rfl, .inr (.inl ⟨107, #[.slice D ord.length d], by simp [execOp, Act.eval, e10, go_sem], hC.mono ?_⟩)⟩
      rintro e w2 ⟨y, rfl, hy, hb2⟩
      exact ⟨{ x with L := y }, (val_eq 2 { x with L := y } (by decide) (fun j hj h1 h2 => by rcases (by omega : j = 0 ∨ j = 1 ∨ j = 3 ∨ j = 4 ∨ j = 5 ∨ j = 6 ∨ j = 7 ∨ j = 8 ∨ j = 9 ∨ j = 10 ∨ j = 11 ∨ j = 13 ∨ j = 14) with rfl | rfl | rfl | rfl | rfl | rfl | rfl | rfl | rfl | rfl | rfl | rfl | rfl <;> rfl) hLi (hLn 12 (by kernel_rfl))), rfl, ⟨hS.setL hb2 hy h14, inv_step hI1 hI2 (fun e => absurd e (by decide)) (fun e => absurd e (by decide))⟩⟩
    · obtain rfl := Option.some.inj hop
      have e1 : ac.tmps[1]?.getD undef = .int .i64 (m : Int) := (Array.getD_eq_getD_getElem? ..).symm.trans (hlow 1 (by kernel_rfl))
      exact ⟨wanted_free rfl, .inl ⟨x, W, fun _ _ => rfl, by simp [execOp, Act.eval, e1, go_sem], ⟨hS.other (by decide) (by decide) (by decide) (by decide) (by decide) (by decide) (by decide), inv_step hI1 hI2 (fun e => absurd e (by decide)) (fun e => absurd e (by decide))⟩⟩⟩
    · obtain rfl := Option.some.inj hop
      have e12 : ac.tmps[12]?.getD undef = .int .i64 (m : Int) := (Array.getD_eq_getD_getElem? ..).symm.trans (hdep 3 _ 12 (by kernel_rfl) rfl rfl)
      have h14 : L.getD 14 true = false := by
        cases h : L.getD 14 true
        · rfl
        · exact absurd (hI1 h) (by rw [hLn 12 (by kernel_rfl)]; decide)
      have hb2 := (Below.refl W.heap.size W).alloc (Nat.le_refl _) (.cells (madeCells #[.int .i64 0] m) 3)
      have hN := (BlockIs.new W 3 (madeCells #[.int .i64 0] m)).to (ic_made m)
      exact ⟨wanted_free rfl, .inl ⟨{ x with gF := W.heap.size }, _, (val_eq 4 { x with gF := W.heap.size } (by decide) (fun j hj h1 h2 => by rcases (by omega : j = 0 ∨ j = 1 ∨ j = 2 ∨ j = 3 ∨ j = 5 ∨ j = 6 ∨ j = 7 ∨ j = 8 ∨ j = 9 ∨ j = 10 ∨ j = 11 ∨ j = 13 ∨ j = 14) with rfl | rfl | rfl | rfl | rfl | rfl | rfl | rfl | rfl | rfl | rfl | rfl | rfl <;> rfl) hLi (hLn 12 (by kernel_rfl))), by simp [execOp, Act.eval, e12, HMF.out, go_sem], ⟨hS.setF hb2 (Nat.le_refl _) hN h14, inv_step hI1 hI2 (fun e => absurd e (by decide)) (fun e => absurd e (by decide))⟩⟩⟩
    · obtain rfl := Option.some.inj hop
      have h14 : L.getD 14 true = false := by
        cases h : L.getD 14 true
        · rfl
        · exact absurd (hI2 (hI1 h)).1 (by rw [hLn 8 (by kernel_rfl)]; decide)
      have hb2 := (Below.refl W.heap.size W).alloc (Nat.le_refl _) (.cells #[.int .i64 1000] 3)
      have hN := BlockIs.new W 3 #[.int .i64 1000]
      exact ⟨wanted_free rfl, .inl ⟨{ x with gB := W.heap.size }, W.alloc (.cells #[.int .i64 1000] 3), (fun j hj => by
        by_cases h15 : j < 15
        · rcases (by omega : j = 0 ∨ j = 1 ∨ j = 2 ∨ j = 3 ∨ j = 4 ∨ j = 5 ∨ j = 6 ∨ j = 7 ∨ j = 8 ∨ j = 9 ∨ j = 10 ∨ j = 11 ∨ j = 12 ∨ j = 13 ∨ j = 14) with rfl | rfl | rfl | rfl | rfl | rfl | rfl | rfl | rfl | rfl | rfl | rfl | rfl | rfl | rfl <;> first | rfl | (exact absurd hj (by rw [hLi]; decide))
        · have h1 : 15 ≤ j := by omega
          show Array.getD _ j undef = Array.getD _ j undef
          rw [Array.getD_eq_getD_getElem?, Array.getD_eq_getD_getElem?, Array.getElem?_eq_none (by simpa using h1), Array.getElem?_eq_none (by simpa using h1)]), by simp [execOp, Act.eval, go_sem], ⟨hS.setB hb2 hN h14, inv_step hI1 hI2 (fun e => absurd e (by decide)) (fun e => absurd e (by decide))⟩⟩⟩
    · obtain rfl := Option.some.inj hop
      have e2 : ac.tmps[2]?.getD undef = .slice D ord.length d := (Array.getD_eq_getD_getElem? ..).symm.trans (hlow 2 (by kernel_rfl))
      exact ⟨wanted_free rfl, .inl ⟨x, W, fun _ _ => rfl, by simp [execOp, Act.eval, e2, go_sem], ⟨hS.other (by decide) (by decide) (by decide) (by decide) (by decide) (by decide) (by decide), inv_step hI1 hI2 (fun e => absurd e (by decide)) (fun e => absurd e (by decide))⟩⟩⟩
    · obtain rfl := Option.some.inj hop
      have e15 : ac.tmps[15]?.getD undef = .slice D ord.length d := (Array.getD_eq_getD_getElem? ..).symm.trans (hdep 6 _ 15 (by kernel_rfl) rfl rfl)
      exact ⟨wanted_free rfl, .inl ⟨x, W, fun _ _ => rfl, by simp [execOp, Act.eval, e15, HOL.out, go_sem], ⟨hS.other (by decide) (by decide) (by decide) (by decide) (by decide) (by decide) (by decide), inv_step hI1 hI2 (fun e => absurd e (by decide)) (fun e => absurd e (by decide))⟩⟩⟩
    · obtain rfl := Option.some.inj hop
      have e14 : ac.tmps[14]?.getD undef = .slice (some ⟨x.gB, 0, none⟩) 1 1 := (Array.getD_eq_getD_getElem? ..).symm.trans (hdep 5 _ 14 (by kernel_rfl) rfl rfl)
      have e16 : ac.tmps[16]?.getD undef = .int .i64 (js.length : Int) := (Array.getD_eq_getD_getElem? ..).symm.trans (hdep 7 _ 16 (by kernel_rfl) rfl rfl)
      have h14 : L.getD 14 true = false := by
        cases h : L.getD 14 true
        · rfl
        · exact absurd (hI1 h) (by rw [hLn 12 (by kernel_rfl)]; decide)
      have h5 : L.getD 5 true = true := hLd 5 (by kernel_rfl)
      have hB5 := hS.2.2.2.2.1 h5
      have hRP : Calls Tryd.prog 108 #[.slice (some ⟨x.gB, 0, none⟩) 1 1, .int .i64 (js.length : Int)] W fun e w' => ∃ g, e = .returned (.slice (some ⟨g, 0, none⟩) js.length js.length) ∧ W.heap.size ≤ g ∧ BlockIs w' g 3 (ic (List.replicate js.length 1000)).toArray ∧ Below W.heap.size W w' := by
        by_cases h0 : js.length = 0
        · rw [h0]; exact repeat_none ⟨x.gB, 0, none⟩ 1 W
        · exact repeat_any ⟨x.gB, 0, none⟩ 1 js.length W (hB5.cell 0) hB5.lt (by omega) (by omega)
      refine ⟨wanted_free rfl, .inr (.inl ⟨108, #[.slice (some ⟨x.gB, 0, none⟩) 1 1, .int .i64 (js.length : Int)], by simp [execOp, Act.eval, e14, e16, go_sem], hRP.mono ?_⟩)⟩
      rintro e w2 ⟨g, rfl, hg, hN, hb2⟩
      exact ⟨{ x with gE := g }, (val_eq 8 { x with gE := g } (by decide) (fun j hj h1 h2 => by rcases (by omega : j = 0 ∨ j = 1 ∨ j = 2 ∨ j = 3 ∨ j = 4 ∨ j = 5 ∨ j = 6 ∨ j = 7 ∨ j = 9 ∨ j = 10 ∨ j = 11 ∨ j = 13 ∨ j = 14) with rfl | rfl | rfl | rfl | rfl | rfl | rfl | rfl | rfl | rfl | rfl | rfl | rfl <;> rfl) hLi (hLn 12 (by kernel_rfl))), rfl, ⟨hS.setE hb2 hg hN h14, inv_step hI1 hI2 (fun e => absurd e (by decide)) (fun e => absurd e (by decide))⟩⟩
    · obtain rfl := Option.some.inj hop
      have e2 : ac.tmps[2]?.getD undef = .slice D ord.length d := (Array.getD_eq_getD_getElem? ..).symm.trans (hlow 2 (by kernel_rfl))
      exact ⟨wanted_free rfl, .inl ⟨x, W, fun _ _ => rfl, by simp [execOp, Act.eval, e2, go_sem], ⟨hS.other (by decide) (by decide) (by decide) (by decide) (by decide) (by decide) (by decide), inv_step hI1 hI2 (fun e => absurd e (by decide)) (fun e => absurd e (by decide))⟩⟩⟩
    · obtain rfl := Option.some.inj hop
      have e18 : ac.tmps[18]?.getD undef = .slice D ord.length d := (Array.getD_eq_getD_getElem? ..).symm.trans (hdep 9 _ 18 (by kernel_rfl) rfl rfl)
      exact ⟨wanted_free rfl, .inl ⟨x, W, fun _ _ => rfl, by simp [execOp, Act.eval, e18, HOL.out, go_sem], ⟨hS.other (by decide) (by decide) (by decide) (by decide) (by decide) (by decide) (by decide), inv_step hI1 hI2 (fun e => absurd e (by decide)) (fun e => absurd e (by decide))⟩⟩⟩
    · obtain rfl := Option.some.inj hop
      have e19 : ac.tmps[19]?.getD undef = .int .i64 (js.length : Int) := (Array.getD_eq_getD_getElem? ..).symm.trans (hdep 10 _ 19 (by kernel_rfl) rfl rfl)
      have h14 : L.getD 14 true = false := by
        cases h : L.getD 14 true
        · rfl
        · exact absurd (hI1 h) (by rw [hLn 12 (by kernel_rfl)]; decide)
      have hb2 := (Below.refl W.heap.size W).alloc (Nat.le_refl _) (.cells (madeCells #[.int .i64 0, .int .i64 0, .int .i64 0] (js.length * 3)) 96)
      have hN := (BlockIs.new W 96 (madeCells #[.int .i64 0, .int .i64 0, .int .i64 0] (js.length * 3))).to (cell3 js.length)
      exact ⟨wanted_free rfl, .inl ⟨{ x with gP := W.heap.size }, _, (val_eq 11 { x with gP := W.heap.size } (by decide) (fun j hj h1 h2 => by rcases (by omega : j = 0 ∨ j = 1 ∨ j = 2 ∨ j = 3 ∨ j = 4 ∨ j = 5 ∨ j = 6 ∨ j = 7 ∨ j = 8 ∨ j = 9 ∨ j = 10 ∨ j = 13 ∨ j = 14) with rfl | rfl | rfl | rfl | rfl | rfl | rfl | rfl | rfl | rfl | rfl | rfl | rfl <;> rfl) hLi (hLn 12 (by kernel_rfl))), by simp [execOp, Act.eval, e19, HMP.out, go_sem], ⟨hS.setP hb2 (Nat.le_refl _) hN h14, inv_step hI1 hI2 (fun e => absurd e (by decide)) (fun e => absurd e (by decide))⟩⟩⟩
    · obtain rfl := Option.some.inj hop
      have e9 : ac.tmps[9]?.getD undef = .agg (wlC (.slice A js.length c) (js.length : Int) B) := (Array.getD_eq_getD_getElem? ..).symm.trans (hdep 0 _ 9 (by kernel_rfl) rfl rfl)
      have e11 : ac.tmps[11]?.getD undef = x.L.v := (Array.getD_eq_getD_getElem? ..).symm.trans (hdep 2 _ 11 (by kernel_rfl) rfl rfl)
      have e13 : ac.tmps[13]?.getD undef = .slice (some ⟨x.gF, 0, none⟩) m m := (Array.getD_eq_getD_getElem? ..).symm.trans (hdep 4 _ 13 (by kernel_rfl) rfl rfl)
      have e17 : ac.tmps[17]?.getD undef = .slice (some ⟨x.gE, 0, none⟩) js.length js.length := (Array.getD_eq_getD_getElem? ..).symm.trans (hdep 8 _ 17 (by kernel_rfl) rfl rfl)
      have e20 : ac.tmps[20]?.getD undef = .slice (some ⟨x.gP, 0, none⟩) js.length js.length := (Array.getD_eq_getD_getElem? ..).symm.trans (hdep 11 _ 20 (by kernel_rfl) rfl rfl)
      obtain ⟨AV, cV, hv⟩ := (hS.2.2.1 (hLd 2 (by kernel_rfl))).1
      rw [hv] at e11
      exact ⟨wanted_free rfl, .inl ⟨x, W, fun _ _ => rfl, by unfold wlC at e9; simp [execOp, Act.eval, e9, e11, e13, e17, e20, go_sem, lqC, hv], ⟨hS.other (by decide) (by decide) (by decide) (by decide) (by decide) (by decide) (by decide), inv_step hI1 hI2 (fun e => absurd e (by decide)) (fun _ => ⟨hLd 8 (by kernel_rfl), hLd 2 (by kernel_rfl)⟩)⟩⟩⟩
    · obtain rfl := Option.some.inj hop
      have hb2 := (Below.refl W.heap.size W).alloc (Nat.le_refl _) (.cells lqZ 150)
      have hN := BlockIs.new W 150 lqZ
      have h14 : L.getD 14 true = false := hLn 14 (by kernel_rfl)
      exact ⟨wanted_free rfl, .inl ⟨{ x with G := W.heap.size }, W.alloc (.cells lqZ 150), (fun j hj => by
        by_cases h15 : j < 15
        · rcases (by omega : j = 0 ∨ j = 1 ∨ j = 2 ∨ j = 3 ∨ j = 4 ∨ j = 5 ∨ j = 6 ∨ j = 7 ∨ j = 8 ∨ j = 9 ∨ j = 10 ∨ j = 11 ∨ j = 12 ∨ j = 13 ∨ j = 14) with rfl | rfl | rfl | rfl | rfl | rfl | rfl | rfl | rfl | rfl | rfl | rfl | rfl | rfl | rfl <;> first | rfl | (exact absurd hj (by rw [hLi]; decide))
        · have h1 : 15 ≤ j := by omega
          show Array.getD _ j undef = Array.getD _ j undef
          rw [Array.getD_eq_getD_getElem?, Array.getD_eq_getD_getElem?, Array.getElem?_eq_none (by simpa using h1), Array.getElem?_eq_none (by simpa using h1)]), by simp [execOp, Act.eval, go_sem, lqZ], ⟨hS.setG hb2 (Nat.le_refl _) hN h14, inv_step hI1 hI2 (fun e => absurd e (by decide)) (fun e => absurd e (by decide))⟩⟩⟩
    · obtain rfl := Option.some.inj hop
      have e7 : ac.tmps[7]?.getD undef = .pointer (some ⟨x.G, 0, none⟩) := (Array.getD_eq_getD_getElem? ..).symm.trans (hdep 13 _ 7 (by kernel_rfl) rfl rfl)
      have e21 : ac.tmps[21]?.getD undef = .agg (lqC (.slice A js.length c) js.length B m x) := (Array.getD_eq_getD_getElem? ..).symm.trans (hdep 12 _ 21 (by kernel_rfl) rfl rfl)
      have h13 : L.getD 13 true = true := hLd 13 (by kernel_rfl)
      obtain ⟨hG, hGB⟩ := hS.2.2.2.2.2.2.2.1 h13
      rw [if_neg (by rw [hLi]; decide)] at hGB
      obtain ⟨AV, cV, hv⟩ := (hS.2.2.1 (hI2 (hLd 12 (by kernel_rfl))).2).1
      exact ⟨wanted_free rfl, .inr (.inr ⟨W.setRow x.G (lqC (.slice A js.length c) js.length B m x), rfl, exec_store14 (X := .tmp 7) (Y := .tmp 21) rfl (hdep 13 _ 7 (by kernel_rfl) rfl rfl) (hdep 12 _ 21 (by kernel_rfl) rfl rfl) hGB rfl rfl (one14 hv), ⟨hS.store hLs h13, inv_step hI1 hI2 (fun _ => hLd 12 (by kernel_rfl)) (fun e => absurd e (by decide))⟩⟩)⟩
end Go.Proofs.YtjemjdlaoebffaaDoor

end
section
namespace Go.Proofs.YtjemjdlaoebffaaDoor
set_option linter.unusedSimpArgs false
open Go.RowKit
def forB (js : List J) (m : Int) (E : List Pr) (o : List Int) : Bool := goodB js m E && ordB js.length o
theorem goodB_on (js : List J) (m : Int) (E : List Pr) : goodB js m E = onB js m E := by
  unfold onB
  cases hm : inB m 1 4
  · unfold goodB; rw [hm]; simp
  · rw [wl_good m hm]; rfl
set_option maxRecDepth 100000 in
theorem l7Ordered_any (A C D : Option Addr) (c d b : Nat) (js : List J) (m : Int) (E : List Pr) (o : List Int) (w : World) (hr : Row w A (jc js)) (hq : Row w C (pc E)) (ho : Row w D (ic o)) (hn : js.length ≤ 10000000) (hl : E.length ≤ 10000000) (hm : o.length ≤ 10000000) :
    Calls Tryd.prog 47 #[.slice A js.length c, .int .i64 m, .slice C E.length d, .slice D o.length b] w fun e w' => e = .returned (.bool (forB js m E o)) ∧ Below w.heap.size w w' := by
  have HF : Hid (forB js m E o = (goodB js m E && ordB js.length o)) := rfl
  have HG := Lib.hid (l7Good_any A C c d js m E w hr hq hn hl)
  have HO := Lib.hid ho
  clear hr hq ho
  cases hg : goodB js m E
  · rw [hg] at HF HG
    clear hg
    go_enter Tryd.func47, Tryd.ntmps47
    go_wp2_with fail
    refine HG.out.mono ?_
    rintro e w1 ⟨rfl, hb1⟩
    go_wp2
    go_ret
    exact ⟨by rw [HF.out]; rfl, hb1⟩
  · rw [hg, Bool.true_and] at HF
    rw [hg] at HG
    clear hg
    go_enter Tryd.func47, Tryd.ntmps47
    go_wp2_with fail
    refine HG.out.mono ?_
    rintro e w1 ⟨rfl, hb1⟩
    have HL := Lib.hid (l2Order_any (js.length : Int) D b o w1 (HO.out.below hb1) (by omega))
    go_wp2_with fail
    refine HL.out.mono ?_
    rintro e _ ⟨rfl, rfl⟩
    go_wp2
    go_ret
    exact ⟨by rw [HF.out]; rfl, hb1⟩
theorem exec_store10 {o : Oper} {ev : Operand → Value} {X Y : Operand} {g : Nat} {cs ds : Array Value} {w : World} (ho : o.op = .store 83 X Y) (hx : ev X = .pointer (some ⟨g, 0, none⟩)) (hy : ev Y = .agg ds) (h : BlockIs w g 83 cs) (hc : cs.size = 10) (hs : ds.size = 10) (h1 : ds.all (·.oneCell') = true) :
    (execOp ev o).run Tryd.prog w = .ok .skip (w.setRow g ds) := by
  have hst := run_storeVar_row (P := Tryd.prog) w g 83 83 cs ds h (by rw [hs]; kernel_rfl) (by rw [hc, hs]) h1
  unfold execOp
  simp only [ho, hx, hy, Instr.storeAt, Instr.sureAddr, Sem.run_bind, Sem.run_pure, Result.andThen_ok, hst]
theorem one10 {AJ : Option Addr} {l k nn : Nat} {B : Nat → Nat} : (wlC (.slice AJ l k) (nn : Int) B).all (·.oneCell') = true := by
  unfold wlC
  simp [Value.oneCell']
/-- What workloadFor hands back. -/
def ForOutW (w : World) (A : Option Addr) (c : Nat) (js : List J) (E : List Pr) (ok : Bool) (e : Ending) (w' : World) : Prop := Below w.heap.size w w' ∧ ∃ (AJ : Option Addr) (l k nn : Nat) (B : Nat → Nat), e = .returned (.tuple #[.agg (wlC (.slice AJ l k) (nn : Int) B), .bool ok]) ∧ (ok = true → js.length ≤ 8 ∧ wlC (.slice AJ l k) (nn : Int) B = wlC (.slice A js.length c) (js.length : Int) (befN js.length (tabB js.length E)))
set_option maxRecDepth 100000 in
set_option maxHeartbeats 600000 in
theorem workloadFor_any (A C D : Option Addr) (c d b : Nat) (js : List J) (m : Int) (E : List Pr) (o : List Int) (w : World) (hr : Row w A (jc js)) (hq : Row w C (pc E)) (ho : Row w D (ic o)) (hn : js.length ≤ 10000000) (hl : E.length ≤ 10000000) (hm : o.length ≤ 10000000) (hT : TzTab w) :
    Calls Tryd.prog 51 #[.slice A js.length c, .int .i64 m, .slice C E.length d, .slice D o.length b] w (ForOutW w A c js E (forB js m E o)) := by
  have HF : Hid (forB js m E o = (goodB js m E && ordB js.length o)) := rfl
  rw [goodB_on] at HF
  have b0 := (Below.refl w.heap.size w).alloc (Nat.le_refl _) (.cells wlZ 83)
  have h0 := BlockIs.new w 83 wlZ
  have HWO := Lib.hid (workloadOn_any A C c d js m E _ (hr.below b0) (hq.below b0) hn hl (hT.below b0))
  have HO := Lib.hid ho
  have H0 := Lib.hid (And.intro b0 h0)
  clear b0 h0 hr hq ho hT
  go_enter Tryd.func51, Tryd.ntmps51
  go_wp2_with fail
  refine HWO.out.mono ?_
  rintro e w1 ⟨hb1, ⟨hw, h8, rfl⟩ | ⟨hw, rfl⟩⟩
  · have HD : Hid (forB js m E o = ordB js.length o) := by show _ = _; rw [HF.out, hw, Bool.true_and]
    obtain ⟨B, hB⟩ : ∃ B, B = befN js.length (tabB js.length E) := ⟨_, rfl⟩
    have HK : Hid (js.length ≤ 8 ∧ B = befN js.length (tabB js.length E)) := ⟨h8, hB⟩
    rw [← hB]
    have hb2 := H0.out.1.trans (hb1.mono H0.out.1.size)
    have hB2 := H0.out.2.below hb1
    have hb3 := hb2.alloc hb2.size (.cells (wlC (.slice A js.length c) (js.length : Int) B) 83)
    have hB3 := hB2.below ((Below.refl _ _).alloc (Nat.le_refl _) (.cells (wlC (.slice A js.length c) (js.length : Int) B) 83))
    have hN3 := BlockIs.new w1 83 (wlC (.slice A js.length c) (js.length : Int) B)
    have hne : w1.heap.size ≠ w.heap.size := by have := hB2.lt; omega
    have H4 := Lib.hid (And.intro hb3 (And.intro hN3 hB3))
    have hg8 : w.heap.size ≤ w.heap.size := Nat.le_refl _
    clear hb2 hB2 hb3 hB3 hN3 HWO H0 hb1 hw HF hB
    unfold wlC
    go_wp2
    rw [show (#[.slice A js.length c, .int .i64 (js.length : Int), .int .u64 (B 0 : Int), .int .u64 (B 1 : Int), .int .u64 (B 2 : Int), .int .u64 (B 3 : Int), .int .u64 (B 4 : Int), .int .u64 (B 5 : Int), .int .u64 (B 6 : Int), .int .u64 (B 7 : Int)] : Array Value) = wlC (.slice A js.length c) (js.length : Int) B from rfl]
    refine wp_region_detP (γ := Unit) (by kernel_rfl) (fun _ L W => (Below w.heap.size w W ∧ BlockIs W w1.heap.size 83 (wlC (.slice A js.length c) (js.length : Int) B)) ∧ (L.getD 8 true = false → BlockIs W w.heap.size 83 wlZ) ∧ (L.getD 8 true = true → BlockIs W w.heap.size 83 (wlC (.slice A js.length c) (js.length : Int) B))) (fun _ kk => (#[.agg (wlC (.slice A js.length c) (js.length : Int) B), .bool true, .bool true, .slice A js.length c, .int .i64 (js.length : Int), .slice D o.length b, .bool (ordB js.length o), .bool (ordB js.length o), undef, .bool (ordB js.length o)] : Array Value).getD kk undef) () (by kernel_rfl) (by kernel_rfl) ⟨⟨H4.out.1.drew, H4.out.2.1⟩, fun _ => H4.out.2.2, fun h => absurd (h.symm.trans (rep_getD 10 8 (by decide))) (by decide)⟩ ?_ ?_
    · intro _ L W hall hS
      have HF := Lib.hid (And.intro hS.1.1 (hS.2.2 (hall 8 (by show 8 < 10; decide))))
      clear hS hall H4
      simp only [putsL]
      go_wp2
      simp only [List.getElem_toArray, List.getElem_cons_zero, List.getElem_cons_succ, Act.put, Array.getD_eq_getD_getElem?, List.getElem?_toArray, List.getElem?_cons_zero, List.getElem?_cons_succ, Option.getD_some, List.setIfInBounds_toArray, List.set_cons_zero, List.set_cons_succ, Nat.reduceAdd]
      have hfin : ForOutW w A c js E (forB js m E o) (.returned (.tuple #[.agg (wlC (.slice A js.length c) (js.length : Int) B), .bool (ordB js.length o)])) W := ⟨HF.out.1, A, js.length, c, js.length, B, by rw [HD.out], fun _ => ⟨HK.out.1, by rw [HK.out.2]⟩⟩
      generalize ForOutW w A c js E (forB js m E o) = RR at hfin ⊢
      have hBB := HF.out.2
      have hcs : (wlC (.slice A js.length c) (js.length : Int) B).size = 10 := rfl
      clear HF HK HD HO
      generalize wlC (.slice A js.length c) (js.length : Int) B = cs at *
      generalize ordB (js.length : Int) o = bb at *
      exact bodyPost_ret (v := .tuple #[.agg cs, .bool bb]) (results_cellW (p := 8) (q := 9) rfl _ _ w.heap.size rfl hBB hcs) rfl hfin
    · intro _ L ac W iq op hLs hop hLi hLd hLn hS hlow hdep
      have hq : iq < 10 := (Array.getElem?_eq_some_iff.1 hop).1
      have K : ∀ (W2 : World), Below W.heap.size W W2 → iq ≠ 8 → (Below w.heap.size w W2 ∧ BlockIs W2 w1.heap.size 83 (wlC (.slice A js.length c) (js.length : Int) B)) ∧ ((L.setIfInBounds iq true).getD 8 true = false → BlockIs W2 w.heap.size 83 wlZ) ∧ ((L.setIfInBounds iq true).getD 8 true = true → BlockIs W2 w.heap.size 83 (wlC (.slice A js.length c) (js.length : Int) B)) := fun W2 hb h1 => by
        rw [getD_set_true, if_neg (fun h => h1 h.1)]
        exact ⟨⟨hS.1.1.trans (hb.mono hS.1.1.size), hS.1.2.below hb⟩, fun h => (hS.2.1 h).below hb, fun h => (hS.2.2 h).below hb⟩
      rcases (by omega : iq = 0 ∨ iq = 1 ∨ iq = 2 ∨ iq = 3 ∨ iq = 4 ∨ iq = 5 ∨ iq = 6 ∨ iq = 7 ∨ iq = 8 ∨ iq = 9) with rfl | rfl | rfl | rfl | rfl | rfl | rfl | rfl | rfl | rfl
      · obtain rfl := Option.some.inj hop
        have e10 : ac.tmps[10]?.getD undef = .pointer (some ⟨w1.heap.size, 0, none⟩) := (Array.getD_eq_getD_getElem? ..).symm.trans (hlow 10 (by kernel_rfl))
        exact ⟨wanted_free rfl, .inl ⟨(), W, fun _ _ => rfl, exec_load10 (x := .tmp 10) rfl (hlow 10 (by kernel_rfl)) hS.1.2 rfl, K W (Below.refl _ _) (by decide)⟩⟩
      · obtain rfl := Option.some.inj hop
        have e11 : ac.tmps[11]?.getD undef = .bool true := (Array.getD_eq_getD_getElem? ..).symm.trans (hlow 11 (by kernel_rfl))
        exact ⟨wanted_free rfl, .inl ⟨(), W, fun _ _ => rfl, by simp [execOp, Act.eval, e11, go_sem], K W (Below.refl _ _) (by decide)⟩⟩
      · obtain rfl := Option.some.inj hop
        have e20 : ac.tmps[20]?.getD undef = .bool true := (Array.getD_eq_getD_getElem? ..).symm.trans (hdep 1 _ 20 (by kernel_rfl) rfl rfl)
        exact ⟨wanted_free rfl, .inl ⟨(), W, fun _ _ => rfl, by simp [execOp, Act.eval, e20, go_sem], K W (Below.refl _ _) (by decide)⟩⟩
      · obtain rfl := Option.some.inj hop
        have e0 : ac.tmps[0]?.getD undef = .slice A js.length c := (Array.getD_eq_getD_getElem? ..).symm.trans (hlow 0 (by kernel_rfl))
        exact ⟨wanted_guard (g := 2) (d := 21) (b := true) rfl rfl rfl (hdep 2 _ 21 (by kernel_rfl) rfl rfl), .inl ⟨(), W, fun _ _ => rfl, by simp [execOp, Act.eval, e0, go_sem], K W (Below.refl _ _) (by decide)⟩⟩
      · obtain rfl := Option.some.inj hop
        have e22 : ac.tmps[22]?.getD undef = .slice A js.length c := (Array.getD_eq_getD_getElem? ..).symm.trans (hdep 3 _ 22 (by kernel_rfl) rfl rfl)
        exact ⟨wanted_guard (g := 2) (d := 21) (b := true) rfl rfl rfl (hdep 2 _ 21 (by kernel_rfl) rfl rfl), .inl ⟨(), W, fun _ _ => rfl, by simp [execOp, Act.eval, e22, go_sem], K W (Below.refl _ _) (by decide)⟩⟩
      · obtain rfl := Option.some.inj hop
        have e3 : ac.tmps[3]?.getD undef = .slice D o.length b := (Array.getD_eq_getD_getElem? ..).symm.trans (hlow 3 (by kernel_rfl))
        exact ⟨wanted_guard (g := 2) (d := 21) (b := true) rfl rfl rfl (hdep 2 _ 21 (by kernel_rfl) rfl rfl), .inl ⟨(), W, fun _ _ => rfl, by simp [execOp, Act.eval, e3, go_sem], K W (Below.refl _ _) (by decide)⟩⟩
      · obtain rfl := Option.some.inj hop
        have e23 : ac.tmps[23]?.getD undef = .int .i64 (js.length : Int) := (Array.getD_eq_getD_getElem? ..).symm.trans (hdep 4 _ 23 (by kernel_rfl) rfl rfl)
        have e24 : ac.tmps[24]?.getD undef = .slice D o.length b := (Array.getD_eq_getD_getElem? ..).symm.trans (hdep 5 _ 24 (by kernel_rfl) rfl rfl)
        refine ⟨wanted_guard (g := 2) (d := 21) (b := true) rfl rfl rfl (hdep 2 _ 21 (by kernel_rfl) rfl rfl), .inr (.inl ⟨96, #[.int .i64 (js.length : Int), .slice D o.length b], by simp [execOp, Act.eval, e23, e24, go_sem], (IsOrder_any (js.length : Int) D b o W (HO.out.below hS.1.1) (by omega)).mono ?_⟩)⟩
        rintro e w2 ⟨rfl, hb⟩
        exact ⟨(), fun _ _ => rfl, rfl, K w2 hb (by decide)⟩
      · obtain rfl := Option.some.inj hop
        have e21 : ac.tmps[21]?.getD undef = .bool true := (Array.getD_eq_getD_getElem? ..).symm.trans (hdep 2 _ 21 (by kernel_rfl) rfl rfl)
        have e25 : ac.tmps[25]?.getD undef = .bool (ordB js.length o) := (Array.getD_eq_getD_getElem? ..).symm.trans (hdep 6 _ 25 (by kernel_rfl) rfl rfl)
        exact ⟨wanted_free rfl, .inl ⟨(), W, fun _ _ => rfl, by simp [execOp, Act.eval, e21, e25, go_sem], K W (Below.refl _ _) (by decide)⟩⟩
      · obtain rfl := Option.some.inj hop
        have e8 : ac.tmps[8]?.getD undef = .pointer (some ⟨w.heap.size, 0, none⟩) := (Array.getD_eq_getD_getElem? ..).symm.trans (hlow 8 (by kernel_rfl))
        have e19 : ac.tmps[19]?.getD undef = .agg (wlC (.slice A js.length c) (js.length : Int) B) := (Array.getD_eq_getD_getElem? ..).symm.trans (hdep 0 _ 19 (by kernel_rfl) rfl rfl)
        have hB8 := hS.2.1 hLi
        refine ⟨wanted_free rfl, .inr (.inr ⟨W.setRow w.heap.size (wlC (.slice A js.length c) (js.length : Int) B), rfl, exec_store10 (X := .tmp 8) (Y := .tmp 19) rfl (hlow 8 (by kernel_rfl)) (hdep 0 _ 19 (by kernel_rfl) rfl rfl) hB8 rfl rfl one10, ⟨below_setRow hS.1.1 hg8 _, (setRow_other _ _ _ _ hne).trans hS.1.2⟩, fun h => ?_, fun _ => setRow_heap _ _ _ _ _ _ hB8⟩)⟩
        rw [getD_set_true, if_pos ⟨rfl, by rw [hLs]; decide⟩] at h
        cases h
      · obtain rfl := Option.some.inj hop
        have e26 : ac.tmps[26]?.getD undef = .bool (ordB js.length o) := (Array.getD_eq_getD_getElem? ..).symm.trans (hdep 7 _ 26 (by kernel_rfl) rfl rfl)
        exact ⟨wanted_free rfl, .inl ⟨(), W, fun _ _ => rfl, by simp [execOp, Act.eval, e26, go_sem], K W (Below.refl _ _) (by decide)⟩⟩
  · have HD : Hid (forB js m E o = false) := by show _ = _; rw [HF.out, hw, Bool.false_and]
    have hb2 := H0.out.1.trans (hb1.mono H0.out.1.size)
    have hB2 := H0.out.2.below hb1
    have hb3 := hb2.alloc hb2.size (.cells wlZ 83)
    have hB3 := hB2.below ((Below.refl _ _).alloc (Nat.le_refl _) (.cells wlZ 83))
    have hN3 := BlockIs.new w1 83 wlZ
    have H4 := Lib.hid (And.intro hb3 (And.intro hN3 hB3))
    clear hb2 hB2 hb3 hB3 hN3 HWO H0 hb1 hw HF
    have hN3 := H4.out.2.1
    have hB3 := H4.out.2.2
    have hb3 := H4.out.1
    have y0 := hN3.cell 0
    have y1 := hN3.cell 1
    have y2 := hN3.cell 2
    have y3 := hN3.cell 3
    have y4 := hN3.cell 4
    have y5 := hN3.cell 5
    have y6 := hN3.cell 6
    have y7 := hN3.cell 7
    have y8 := hN3.cell 8
    have y9 := hN3.cell 9
    have z0 := hB3.cell 0
    have z1 := hB3.cell 1
    have z2 := hB3.cell 2
    have z3 := hB3.cell 3
    have z4 := hB3.cell 4
    have z5 := hB3.cell 5
    have z6 := hB3.cell 6
    have z7 := hB3.cell 7
    have z8 := hB3.cell 8
    have z9 := hB3.cell 9
    have f0 := hB3.frozen 0
    have f1 := hB3.frozen 1
    have f2 := hB3.frozen 2
    have f3 := hB3.frozen 3
    have f4 := hB3.frozen 4
    have f5 := hB3.frozen 5
    have f6 := hB3.frozen 6
    have f7 := hB3.frozen 7
    have f8 := hB3.frozen 8
    have f9 := hB3.frozen 9
    simp only [wlZ, List.getElem?_toArray, List.getElem?_cons_zero, List.getElem?_cons_succ] at y0 y1 y2 y3 y4 y5 y6 y7 y8 y9 z0 z1 z2 z3 z4 z5 z6 z7 z8 z9
    have hSB := ((((((((((hB3.set 0 (.slice none 0 0)).set 1 (.int .i64 0)).set 2 (.int .u64 0)).set 3 (.int .u64 0)).set 4 (.int .u64 0)).set 5 (.int .u64 0)).set 6 (.int .u64 0)).set 7 (.int .u64 0)).set 8 (.int .u64 0)).set 9 (.int .u64 0)).drew
    have hSL := ((((((((((hb3.setCell (p := ⟨w.heap.size, 0, none⟩) (Nat.le_refl _) (.slice none 0 0)).setCell (p := ⟨w.heap.size, 1, none⟩) (Nat.le_refl _) (.int .i64 0)).setCell (p := ⟨w.heap.size, 2, none⟩) (Nat.le_refl _) (.int .u64 0)).setCell (p := ⟨w.heap.size, 3, none⟩) (Nat.le_refl _) (.int .u64 0)).setCell (p := ⟨w.heap.size, 4, none⟩) (Nat.le_refl _) (.int .u64 0)).setCell (p := ⟨w.heap.size, 5, none⟩) (Nat.le_refl _) (.int .u64 0)).setCell (p := ⟨w.heap.size, 6, none⟩) (Nat.le_refl _) (.int .u64 0)).setCell (p := ⟨w.heap.size, 7, none⟩) (Nat.le_refl _) (.int .u64 0)).setCell (p := ⟨w.heap.size, 8, none⟩) (Nat.le_refl _) (.int .u64 0)).setCell (p := ⟨w.heap.size, 9, none⟩) (Nat.le_refl _) (.int .u64 0)).drew
    have HS := Lib.hid (And.intro hSL (hSB.to (ds := wlZ) (by unfold wlZ; rfl)))
    clear hSB hSL
    clear hN3 hB3 hb3 H4
    unfold wlZ
    unfold wlZ at *
    go_wp2
    go_region
    go_wp2
    obtain ⟨hx1, hx2⟩ := HS.out
    generalize World.drew _ = WW at hx1 hx2 ⊢
    have hfin : ∀ W : World, Below w.heap.size w W → ForOutW w A c js E (forB js m E o) (.returned (.tuple #[.agg wlZ, .bool false])) W := fun W h => ⟨h, none, 0, 0, 0, fun _ => 0, by rw [HD.out]; rfl, fun e => by rw [HD.out] at e; cases e⟩
    generalize ForOutW w A c js E (forB js m E o) = RR at hfin ⊢
    exact bodyPost_ret (v := .tuple #[.agg wlZ, .bool false]) (results_cellW (p := 8) (q := 9) rfl _ _ w.heap.size rfl hx2 rfl) rfl (hfin _ hx1)
end Go.Proofs.YtjemjdlaoebffaaDoor

end
section
namespace Go.Proofs.YtjemjdlaoebffaaDoor
open Go.RowKit
theorem stepL_len (js : List J) (T : Nat → Nat → Bool) (ord : List Nat) (now : Int) (s : LsS) (k : Nat) : (stepL js T ord now s k).plan.length = s.plan.length := by
  unfold stepL
  split
  · split
    · rfl
    · simp [assignL]
  · rfl
theorem startTo_len (js : List J) (T : Nat → Nat → Bool) (ord : List Nat) (now : Int) (s : LsS) : ∀ k, (startTo js T ord now s k).plan.length = s.plan.length
  | 0 => rfl
  | k + 1 => by rw [startTo_succ, stepL_len, startTo_len js T ord now s k]
theorem runL_len (js : List J) (T : Nat → Nat → Bool) (ord : List Nat) (m : Nat) : ∀ (f : Nat) (now : Int) (s : LsS), (runL js T ord m f now s).length = s.plan.length
  | 0, _, _ => rfl
  | f + 1, now, s => by
    show (if leftL ord s.ends = [] then s.plan else runL js T ord m f (soonL (startTo js T ord now s m).ends now) (startTo js T ord now s m)).length = _
    split
    · rfl
    · rw [runL_len js T ord m f, startTo_len]
theorem listL_len (js : List J) (T : Nat → Nat → Bool) (ord : List Nat) (m : Nat) : (listL js T ord m).length = js.length := by
  unfold listL
  rw [runL_len]
  simp [initL]
def listR (js : List J) (m : Int) (E : List Pr) (o : List Int) : List Sp × Bool := if forB js m E o then (listL js (tabB js.length E) (natsOf o) m.toNat, true) else ([], false)
theorem for_parts {js : List J} {m : Int} {E : List Pr} {o : List Int} (h : forB js m E o = true) : goodB js m E = true ∧ ∃ (p : List Nat) (mm : Nat), o = natI p ∧ natsOf o = p ∧ p.Perm (List.range js.length) ∧ m = (mm : Int) ∧ m.toNat = mm ∧ 1 ≤ mm ∧ mm ≤ 4 := by
  unfold forB at h
  rw [Bool.and_eq_true] at h
  obtain ⟨_, _, _, _, hp, _, hm⟩ := good_parts h.1
  have hg : goodL js = true := plain_good hp
  obtain ⟨_, p, h1, h2, h3⟩ := two_out (js := js) (o := o) (by unfold twoB; rw [hg, h.2]; rfl)
  obtain ⟨m1, m4⟩ := inB_out hm
  exact ⟨h.1, p, m.toNat, h1, h3, h2, by omega, rfl, by omega, by omega⟩
theorem listR_len (js : List J) (m : Int) (E : List Pr) (o : List Int) : (listR js m E o).1.length ≤ 8 := by
  unfold listR
  split
  · rename_i h
    obtain ⟨hg, _⟩ := for_parts h
    obtain ⟨_, h8, _⟩ := good_parts hg
    show (listL js _ _ _).length ≤ 8
    rw [listL_len]
    exact h8
  · simp
theorem ret_plan {w w' : World} {r : List Sp × Bool} {xs : List Sp} {g : Nat} (hr : r = (xs, true)) (hg : w.heap.size ≤ g) (hB : BlockIs w' g 96 (spc xs).toArray) (hx : xs.length ≤ 1000) (hb : Below w.heap.size w w') (e : Ending) (he : e = .returned (.tuple #[.slice (some ⟨g, 0, none⟩) xs.length xs.length, .bool true])) : RetTB w r e w' := by
  subst hr he
  have hl := spc_len xs
  have h := hB.own (base := w.heap.size) (n := xs.length) (c := xs.length) (size := 3) hg (by simp [hl]; omega) (Nat.le_refl _) (by unfold maxLen; omega) (by simp [hl]; omega)
  rw [List.take_of_length_le (by simp [hl]; omega)] at h
  exact ⟨_, xs.length, rfl, Seg.of_own h, hb⟩
theorem ret_noplan {w w1 : World} {r : List Sp × Bool} (hr : r = ([], false)) (hb : Below w.heap.size w w1) (e : Ending) (he : e = .returned (.tuple #[.slice (some ⟨w1.heap.size, 0, none⟩) 0 0, .bool false])) : RetTB w r e (w1.alloc (.cells #[] 96)) := by
  subst hr he
  have h := (BlockIs.new w1 96 #[]).own (base := w.heap.size) (n := 0) (c := 0) (size := 3) hb.size (by simp) (Nat.le_refl _) (by unfold maxLen; omega) (by simp)
  exact ⟨_, 0, rfl, Seg.of_own h, hb.alloc hb.size _⟩
section
variable (A C D : Option Addr) (c d b : Nat) (js : List J) (m : Int) (E : List Pr) (o : List Int) (w : World) (hr : Row w A (jc js)) (hq : Row w C (pc E)) (ho : Row w D (ic o)) (hn : js.length ≤ 10000000) (hl : E.length ≤ 10000000) (hm : o.length ≤ 10000000)
include hr hq ho hn hl hm
end
end Go.Proofs.YtjemjdlaoebffaaDoor

end
section
namespace Go.Proofs.YtjemjdlaoebffaaDoor
def PlanOk (js : List J) (m : Nat) (s : LsS) : Prop := ∀ k, k < js.length → endAt s.ends k ≠ 1000 → tkOk (m : Int) k (tkAt s.plan k) = true
section
variable {js : List J} {T : Nat → Nat → Bool} {ord : List Nat} {m : Nat} {now : Int} {s : LsS}
theorem PlanOk.step (hp : PlanOk js m s) (h : OkL js m now s) (hok : ∀ j ∈ js, okJ j = true) (h8 : js.length ≤ 8) (ho : ∀ j ∈ ord, j < js.length) {k : Nat} (hk : k < m) : PlanOk js m (stepL js T ord now s k) := by
  unfold stepL
  split
  · cases hpk : pickJ js.length T ord s.ends now with
    | none => exact hp
    | some j =>
      obtain ⟨hj, _, _⟩ := pick_out ho hpk
      have hbd := (h.bd hok h8).1
      have hn0 := h.n0
      intro i hi hne
      have hgs : tkAt (assignL js s now k j).plan i = if j = i then ⟨(j : Int), (k : Int), now⟩ else tkAt s.plan i := by
        unfold tkAt assignL
        simp only [List.getD_eq_getElem?_getD, List.getElem?_set]
        by_cases e : j = i
        · subst e; simp [h.lp, hj]
        · simp [e]
      rw [hgs]
      by_cases e : j = i
      · subst e
        rw [if_pos rfl]
        exact decide_eq_true ⟨rfl, by show (0 : Int) ≤ k; omega, by show (k : Int) < m; omega, hn0, by show now ≤ 500; omega⟩
      · rw [if_neg e]
        refine hp i hi ?_
        have : endAt (s.ends.set j (now + jAt js j)) i ≠ 1000 := hne
        rwa [endAt_set (by rw [h.le]; exact hj), if_neg e] at this
  · exact hp
theorem PlanOk.start (hp : PlanOk js m s) (h : OkL js m now s) (hok : ∀ j ∈ js, okJ j = true) (h8 : js.length ≤ 8) (ho : ∀ j ∈ ord, j < js.length) : ∀ k, k ≤ m → PlanOk js m (startTo js T ord now s k)
  | 0, _ => hp
  | k + 1, hk => by
    rw [startTo_succ]
    exact (PlanOk.start hp h hok h8 ho k (by omega)).step (h.start hok h8 ho k (by omega)) hok h8 ho (by omega)
end
theorem run_ok {js : List J} {E : List Ed} {ord : List Nat} {m : Nat} (hok : ∀ j ∈ js, okJ j = true) (h8 : js.length ≤ 8) (ho : ∀ j ∈ ord, j < js.length) (hall : ∀ j, j < js.length → j ∈ ord) (hirr : irrB js.length E js.length = true) (hm : 0 < m) : ∀ (f : Nat) (now : Int) (s : LsS), OkL js m now s → PlanOk js m s → 1001 ≤ (f : Int) + now → tksB js.length (m : Int) (runL js (tabB js.length E) ord m f now s) = true
  | 0, now, s, h, _, hf => by have := (h.bd hok h8).1; omega
  | f + 1, now, s, h, hp, hf => by
    show tksB js.length (m : Int) (if leftL ord s.ends = [] then s.plan else runL js (tabB js.length E) ord m f (soonL (startTo js (tabB js.length E) ord now s m).ends now) (startTo js (tabB js.length E) ord now s m)) = true
    by_cases hl : leftL ord s.ends = []
    · rw [if_pos hl]
      refine tks_good h.lp fun k hk => hp k hk fun e => ?_
      have : k ∈ leftL ord s.ends := by unfold leftL; rw [List.mem_filter]; exact ⟨hall k hk, decide_eq_true e⟩
      rw [hl] at this
      cases this
    · rw [if_neg hl]
      have hs := h.start (T := tabB js.length E) hok h8 ho m (Nat.le_refl _)
      have hr := runs_after h hok h8 ho hall hirr hm hl
      have hso := soon_out hs hok h8 hr
      exact run_ok hok h8 ho hall hirr hm f _ _ hso.2 (hp.start h hok h8 ho m (Nat.le_refl _)) (by omega)
theorem list_ok {js : List J} {E : List Ed} {ord : List Nat} {m : Nat} (hok : ∀ j ∈ js, okJ j = true) (h8 : js.length ≤ 8) (hp : ord.Perm (List.range js.length)) (hirr : irrB js.length E js.length = true) (hm : 0 < m) : tksB js.length (m : Int) (listL js (tabB js.length E) ord m) = true := by
  refine run_ok hok h8 (fun j hj => List.mem_range.1 (hp.mem_iff.1 hj)) (fun j hj => hp.mem_iff.2 (List.mem_range.2 hj)) hirr hm 1001 0 _ ok_init (fun k hk hne => ?_) (by omega)
  exfalso
  apply hne
  unfold initL endAt
  simp only [List.getD_eq_getElem?_getD, List.getElem?_replicate]
  split <;> rfl
end Go.Proofs.YtjemjdlaoebffaaDoor

end
section
namespace Go.Proofs.YtjemjdlaoebffaaDoor
open Go.RowKit
def tkC (s : Sp) : Array Value := #[.int .i64 s.j, .int .i64 s.f, .int .i64 s.t]
def isTkB (m : Int) (s : Sp) : Bool := decide (0 ≤ s.f ∧ s.f < m ∧ 0 ≤ s.t ∧ s.t ≤ 500)
set_option maxRecDepth 100000 in
set_option maxHeartbeats 2000000 in
theorem spanOf_any (A : Option Addr) (c : Nat) (js : List J) (n : Int) (B : Nat → Nat) (k : Nat) (f t : Int) (w : World) (hr : Row w A (jc js)) (hk : k < js.length) (hok : ∀ j ∈ js, okJ j = true) (h0 : 0 ≤ t) (h1 : t ≤ 500) :
    Calls Tryd.prog 115 #[.agg (wlC (.slice A js.length c) n B), .agg #[.int .i64 (k : Int), .int .i64 f, .int .i64 t]] w fun e w' => e = .returned (.agg #[.int .i64 (k : Int), .int .i64 t, .int .i64 (t + jAt js k)]) ∧ Below w.heap.size w w' := by
  obtain ⟨ad, hA, hb, hc0, _, _, _⟩ := hr.job hk
  subst hA
  have e1 : jAt js k = js[k].t := congrArg J.t (getD_at js j0 hk)
  have hp := okJ_out (hok _ (List.getElem_mem hk))
  rw [e1]
  have hk0 : (0 : Int) ≤ k := by omega
  have hk1 : (k : Int) < js.length := by omega
  have hbk : (ad.add (k * 4)).block < w.heap.size := by rw [add_block]; exact hb
  generalize js[k].t = p at *
  have hw1 : IntKind.i64.wrap (t + p) = t + p := IntWalk.i64_in _ (by omega)
  clear hr hok e1
  have hW := (((Below.refl w.heap.size w).alloc (Nat.le_refl _) (.cells #[.slice (some ad) js.length c, .int .i64 n, .int .u64 (B 0 : Int), .int .u64 (B 1 : Int), .int .u64 (B 2 : Int), .int .u64 (B 3 : Int), .int .u64 (B 4 : Int), .int .u64 (B 5 : Int), .int .u64 (B 6 : Int), .int .u64 (B 7 : Int)] 83)).alloc (by simp) (.cells #[.int .i64 (k : Int), .int .i64 f, .int .i64 t] 96)).alloc (by simp; omega) (.cells #[.int .i64 0, .int .i64 0, .int .i64 0] 157)
  have hcW := (hW.cell hbk).trans hc0
  clear hW hc0
  unfold wlC
  go_enter Tryd.func115, Tryd.ntmps115
  go_wp2
  go_region
  go_wp2
  refine bodyPost_ret (v := .agg #[.int .i64 (k : Int), .int .i64 t, .int .i64 (t + p)]) (by simp [results, Tryd.f115, go_sem]) rfl ⟨rfl, ?_⟩
  exact ((((Below.refl w.heap.size w).alloc (Nat.le_refl _) (.cells #[.slice (some ad) js.length c, .int .i64 n, .int .u64 (B 0 : Int), .int .u64 (B 1 : Int), .int .u64 (B 2 : Int), .int .u64 (B 3 : Int), .int .u64 (B 4 : Int), .int .u64 (B 5 : Int), .int .u64 (B 6 : Int), .int .u64 (B 7 : Int)] 83)).alloc (by simp) (.cells #[.int .i64 (k : Int), .int .i64 f, .int .i64 t] 96)).alloc (by simp; omega) (.cells #[.int .i64 (k : Int), .int .i64 t, .int .i64 (t + p)] 157)).drew
theorem tkOk_split (m : Int) (k : Nat) (s : Sp) : tkOk m k s = (decide (s.j = (k : Int)) && isTkB m s) := by
  unfold tkOk isTkB
  rw [Bool.decide_and]
end Go.Proofs.YtjemjdlaoebffaaDoor

end
section
namespace Go.Proofs.YtjemjdlaoebffaaDoor
set_option linter.unusedSimpArgs false
open Go.RowKit
theorem put_eq {R : Act → World → Prop} {a : Act} {d : Option Nat} {x y : Value} {w : World} (h : x = y) (hK : R (a.put d y) w) : R (a.put d x) w := h ▸ hK
def lenT (js : List J) (ss : List Sp) : Int := mostGo (endsT js ss) 0
set_option maxRecDepth 100000 in
set_option maxHeartbeats 2000000 in
theorem l7Length_any (A D : Option Addr) (c b : Nat) (js : List J) (ss : List Sp) (m : Int) (w : World) (hr : Row w A (jc js)) (hs : Row w D (spc ss)) (hok : ∀ j ∈ js, okJ j = true) (h8 : js.length ≤ 8) (ht : tksB js.length m ss = true) :
    Calls Tryd.prog 48 #[.slice A js.length c, .slice D ss.length b] w fun e w' => e = .returned (.int .i64 (lenT js ss)) ∧ Below w.heap.size w w' := by
  have HR := Lib.hid hr
  have HS := Lib.hid hs
  have HOK := Lib.hid hok
  have HT := Lib.hid (tks_out ht).2
  have HL := Lib.hid (tks_out ht).1
  have HV : Hid (lenT js ss = mostGo (endsT js ss) 0) := rfl
  have HM := Lib.hid (fun x y W => (l1Most_any x y W).mono (fun e w' h => (⟨h.1, h.2.symm⟩ : e = .returned (.int .i64 (max x y)) ∧ W = w')))
  clear hr hs hok ht
  go_enter Tryd.func48, Tryd.ntmps48
  go_wp2
  go_loopw [5, 6] (fun tv iv wr => ∃ (k : Nat) (t : Int), k ≤ ss.length ∧ iv = .int .i64 (k : Int) ∧ tv = .int .i64 t ∧ Hid (mostGo ((endsT js ss).drop k) t = mostGo (endsT js ss) 0) ∧ Below w.heap.size w wr) (fun _ iv _ => ss.length - (intOf iv).toNat)
  case atStart => exact ⟨0, 0, Nat.zero_le _, rfl, rfl, rfl, Below.refl _ _⟩
  case round =>
    obtain ⟨k, t, hk, rfl, rfl, hE, hb⟩ := hrel
    by_cases hks : k < ss.length
    · have hkj : k < js.length := by have := HL.out; omega
      obtain ⟨ad, hA', hbl, a0, a1, a2⟩ := (HS.out.below hb).span hks
      subst hA'
      obtain ⟨aj, hA', hbj, c0, _, _, _⟩ := (HR.out.below hb).job hkj
      subst hA'
      have hke : k < (endsT js ss).length := by rw [endsT_len]; exact hkj
      have e2 := mostGo_drop (endsT js ss) k t hke
      rw [endsT_at js ss k hke] at e2
      have hgk : tkAt ss k = ss[k] := getD_at ss sp0 hks
      have e1 : jAt js k = js[k].t := congrArg J.t (getD_at js j0 hkj)
      have hk2 := tkOk_out (HT.out k hkj)
      have hp1 := okJ_out (HOK.out _ (List.getElem_mem hkj))
      rw [hgk] at hk2 e2
      rw [e1] at e2
      have HE := Lib.hid (e2.symm.trans hE.out)
      generalize ss[k] = s1 at *
      obtain ⟨x1, f1, t1⟩ := s1
      dsimp only at a0 a1 a2 hk2 HE
      generalize js[k].t = p1 at *
      obtain ⟨_, _, _, q0, q1⟩ := hk2
      have hw1 : IntKind.i64.wrap (t1 + p1) = t1 + p1 := IntWalk.i64_in _ (by omega)
      have hk0 : (0 : Int) ≤ k := by omega
      have hk1 : (k : Int) < ss.length := by omega
      have hk3 : (k : Int) < js.length := by omega
      have HB := Lib.hid hb
      clear hE hgk e1 e2 hke hb
      go_wp2
      go_quiet ((go_at_call 92; first | exact quiet_same (HM.out _ _ _) | exact quiet_eq (HM.out _ _ _)))
      go_wp2
      go_roundw
      case rel => exact ⟨k + 1, max t (t1 + p1), by omega, by go_num, rfl, HE, below_drewN HB.out _⟩
      case measure => simp [intOf]; omega
    · obtain rfl : k = ss.length := by omega
      have hT' := hE.out
      rw [List.drop_eq_nil_of_le (by rw [endsT_len]; have := HL.out; omega)] at hT'
      have HT2 : Hid (t = mostGo (endsT js ss) 0) := hT'
      clear hE hT'
      go_wp2
      go_ret
      exact ⟨by rw [HV.out, ← HT2.out]; rfl, hb⟩
set_option maxRecDepth 100000 in
set_option maxHeartbeats 2000000 in
theorem endsOf_any (A D : Option Addr) (c b : Nat) (js : List J) (ss : List Sp) (m n : Int) (B : Nat → Nat) (w : World) (hr : Row w A (jc js)) (hs : Row w D (spc ss)) (hok : ∀ j ∈ js, okJ j = true) (h8 : js.length ≤ 8) (ht : tksB js.length m ss = true) :
    Calls Tryd.prog 65 #[.agg (wlC (.slice A js.length c) n B), .slice D ss.length b] w fun e w' => e = .returned (.slice (some ⟨w.heap.size + 1, 0, none⟩) ss.length ss.length) ∧ BlockIs w' (w.heap.size + 1) 3 (ic (endsT js ss)).toArray ∧ Below w.heap.size w w' := by
  have HR := Lib.hid hr
  have HS := Lib.hid hs
  have HOK := Lib.hid hok
  have HT := Lib.hid (tks_out ht).2
  have HL := Lib.hid (tks_out ht).1
  have hl8 : ss.length ≤ 8 := by have := HL.out; omega
  have hmk := run_make_row' (P := Tryd.prog) 23 3 (.int .i64 0) 8 Tryd.underlying23 infoI rfl .i64 .i64 ss.length (by omega) (by omega)
  have b0 := (Below.refl w.heap.size w).alloc (Nat.le_refl _) (.cells (wlC (.slice A js.length c) n B) 83)
  have hx0 := BlockIs.new w 83 (wlC (.slice A js.length c) n B)
  have e0 : (w.alloc (.cells (wlC (.slice A js.length c) n B) 83)).heap.size = w.heap.size + 1 := by simp
  have hy0 := BlockIs.new (w.alloc (.cells (wlC (.slice A js.length c) n B) 83)) 3 (madeCells #[.int .i64 0] ss.length)
  rw [e0] at hy0
  have b1 := (Below.refl _ _).alloc (Nat.le_refl _) (w := (w.alloc (.cells (wlC (.slice A js.length c) n B) 83))) (.cells (madeCells #[.int .i64 0] ss.length) 3)
  have H0 := Lib.hid (And.intro (hx0.below b1) (And.intro hy0 (b0.trans (b1.mono b0.size))))
  obtain ⟨W1, hW1⟩ : ∃ W1, W1 = (w.alloc (.cells (wlC (.slice A js.length c) n B) 83)).alloc (.cells (madeCells #[.int .i64 0] ss.length) 3) := ⟨_, rfl⟩
  rw [← hW1, ic_made] at H0
  clear hr hs hok ht b0 b1 hx0 hy0 e0
  unfold wlC at hW1
  unfold wlC
  go_enter Tryd.func65, Tryd.ntmps65
  go_wp2
  rw [← hW1]
  clear hW1 hmk
  go_loopw [13] (fun iv wr => ∃ (k : Nat) (xs : List Int), k ≤ ss.length ∧ iv = .int .i64 (k : Int) ∧ Hid (xs.length = ss.length ∧ ∀ i, i < k → xs.getD i 0 = (endsT js ss).getD i 0) ∧ BlockIs wr (w.heap.size + 1) 3 (ic xs).toArray ∧ BlockIs wr w.heap.size 83 (wlC (.slice A js.length c) n B) ∧ Below w.heap.size w wr) (fun iv _ => ss.length - (intOf iv).toNat)
  case atStart => exact ⟨0, List.replicate ss.length 0, Nat.zero_le _, rfl, ⟨List.length_replicate, fun i hi => absurd hi (Nat.not_lt_zero i)⟩, H0.out.2.1, H0.out.1, H0.out.2.2⟩
  case round =>
    obtain ⟨k, xs, hk, rfl, hX, hB, hW, hb⟩ := hrel
    by_cases hks : k < ss.length
    · have hkj : k < js.length := by have := HL.out; omega
      obtain ⟨ad, hA', hbl, a0, a1, a2⟩ := (HS.out.below hb).span hks
      subst hA'
      have hke : k < (endsT js ss).length := by rw [endsT_len]; exact hkj
      have e2 : (endsT js ss).getD k 0 = (tkAt ss k).t + jAt js k := by rw [getD_at _ _ hke, endsT_at]
      have hgk : tkAt ss k = ss[k] := getD_at ss sp0 hks
      have hk2 := tkOk_out (HT.out k hkj)
      rw [hgk] at hk2 e2
      have HX : Hid ((xs.set k (ss[k].t + jAt js k)).length = ss.length ∧ ∀ i, i < k + 1 → (xs.set k (ss[k].t + jAt js k)).getD i 0 = (endsT js ss).getD i 0) := by
        refine ⟨by rw [List.length_set]; exact hX.out.1, fun i hi => ?_⟩
        rw [List.getD_eq_getElem?_getD, List.getElem?_set]
        by_cases h : k = i
        · subst h
          rw [if_pos rfl, if_pos (by rw [hX.out.1]; exact hks), e2]; rfl
        · rw [if_neg h, ← List.getD_eq_getElem?_getD]; exact hX.out.2 i (by omega)
      have hkx : k < xs.length := by rw [hX.out.1]; exact hks
      generalize ss[k] = s1 at *
      obtain ⟨x1, f1, t1⟩ := s1
      dsimp only at a0 a1 a2 hk2 HX
      obtain ⟨rfl, _, _, q0, q1⟩ := hk2
      have hbn := (Below.refl wr.heap.size wr).alloc (Nat.le_refl _) (.cells #[.int .i64 (k : Int), .int .i64 f1, .int .i64 t1] 96)
      have HBN := Lib.hid (hb.trans (hbn.mono hb.size))
      have HSP := Lib.hid (spanOf_any A c js n B k f1 t1 _ ((HR.out.below hb).below hbn) hkj HOK.out q0 q1)
      have hcW := hW.below hbn
      have H3 := Lib.hid (And.intro (hB.below hbn) hcW)
      have hk0 : (0 : Int) ≤ k := by omega
      have hk1 : (k : Int) < ss.length := by omega
      have hwx : w.heap.size < wr.heap.size := (Array.getElem?_eq_some_iff.1 hW).1
      have cw0 := hW.cell 0
      have cw1 := hW.cell 1
      have cw2 := hW.cell 2
      have cw3 := hW.cell 3
      have cw4 := hW.cell 4
      have cw5 := hW.cell 5
      have cw6 := hW.cell 6
      have cw7 := hW.cell 7
      have cw8 := hW.cell 8
      have cw9 := hW.cell 9
      simp only [wlC, List.getElem?_toArray, List.getElem?_cons_zero, List.getElem?_cons_succ] at cw0 cw1 cw2 cw3 cw4 cw5 cw6 cw7 cw8 cw9
      unfold wlC at HSP
      clear hX hB hW hb hke e2 hgk hbn hcW
      generalize jAt js k = p1 at *
      go_wp2_with fail
      refine HSP.out.mono ?_
      rintro e w2 ⟨rfl, hb2⟩
      have hB2 := H3.out.1.below hb2
      have HW2 := Lib.hid (H3.out.2.below hb2)
      have hbt := HBN.out.trans (hb2.mono HBN.out.size)
      have hck := hB2.int hkx
      have hfz := hB2.frozen k
      have HLS := Lib.hid (hB2.set k (.int .i64 (t1 + p1)))
      rw [ic_set] at HLS
      have HWS := Lib.hid (HW2.out.away (g' := w.heap.size + 1) (by omega) k (.int .i64 (t1 + p1)))
      have HBS := Lib.hid (hbt.setCell (p := ⟨w.heap.size + 1, k, none⟩) (by show w.heap.size ≤ w.heap.size + 1; omega) (.int .i64 (t1 + p1)))
      clear HSP H3 HBN HW2 hB2 hbt hb2
      go_wp2
      refine put_eq (y := .int .i64 (t1 + p1)) rfl ?_
      go_wp2
      go_roundw
      case rel => exact ⟨k + 1, _, by omega, by go_num, HX, HLS.out, HWS.out, HBS.out⟩
      case measure => simp [intOf]; omega
    · obtain rfl : k = ss.length := by omega
      have hxs : xs = endsT js ss := by
        refine List.ext_getElem (by rw [endsT_len]; have := HL.out; rw [hX.out.1]; exact this) fun i h1 h2 => ?_
        have := hX.out.2 i (by rw [← hX.out.1]; exact h1)
        rwa [getD_at _ _ h1, getD_at _ _ h2] at this
      rw [hxs] at hB
      clear hX hW
      go_wp2
      go_ret
      exact ⟨rfl, hB, hb⟩
end Go.Proofs.YtjemjdlaoebffaaDoor

end
section
namespace Go.Proofs.YtjemjdlaoebffaaDoor
set_option linter.unusedSimpArgs false
open Go.RowKit
end Go.Proofs.YtjemjdlaoebffaaDoor

end
section
namespace Go.Proofs.YtjemjdlaoebffaaDoor
set_option linter.unusedSimpArgs false
open Go.RowKit
def isPlanR (js : List J) (m : Int) (E : List Pr) (ss : List Sp) : Bool × Bool := if goodB js m E then (planB js m (tabB js.length E) ss, true) else (false, false)
def planLenR (js : List J) (m : Int) (E : List Pr) (ss : List Sp) : Int × Bool := if goodB js m E then (if planB js m (tabB js.length E) ss then (lenT js ss, true) else (0, false)) else (0, false)
theorem on_good (js : List J) (m : Int) (E : List Pr) : goodB js m E = onB js m E := by
  unfold onB
  cases hm : inB m 1 4
  · unfold goodB; rw [hm]; simp
  · rw [wl_good m hm]; rfl
set_option maxRecDepth 100000 in
set_option maxHeartbeats 2000000 in
theorem lengthOf_any (A D : Option Addr) (c b : Nat) (js : List J) (ss : List Sp) (m n : Int) (B : Nat → Nat) (w : World) (hr : Row w A (jc js)) (hs : Row w D (spc ss)) (hok : ∀ j ∈ js, okJ j = true) (h8 : js.length ≤ 8) (ht : tksB js.length m ss = true) :
    Calls Tryd.prog 97 #[.agg (wlC (.slice A js.length c) n B), .slice D ss.length b] w fun e w' => e = .returned (.int .i64 (lenT js ss)) ∧ Below w.heap.size w w' := by
  have HV : Hid (lenT js ss = mostGo (endsT js ss) 0) := rfl
  have HL : Hid ((endsT js ss).length = ss.length) := by show _ = _; rw [endsT_len, (tks_out ht).1]
  have hl8 : ss.length ≤ 8 := by rw [(tks_out ht).1]; exact h8
  have b0 := (Below.refl w.heap.size w).alloc (Nat.le_refl _) (.cells (wlC (.slice A js.length c) n B) 83)
  have HE := Lib.hid (endsOf_any A D c b js ss m n B _ (hr.below b0) (hs.below b0) hok h8 ht)
  have HB0 := Lib.hid b0
  clear hr hs hok ht b0
  unfold wlC
  unfold wlC at HE HB0
  go_enter Tryd.func97, Tryd.ntmps97
  go_wp2_with fail
  refine HE.out.mono ?_
  rintro e w1 ⟨rfl, hB, hb⟩
  have HB := Lib.hid hB
  have HF := Lib.hid (HB0.out.trans (hb.mono HB0.out.size))
  clear hB hb HE HB0
  generalize (w.alloc _).heap.size + 1 = g at *
  go_wp2
  go_loop [5, 12] (fun tv iv => ∃ (k : Nat) (t : Int), k ≤ ss.length ∧ iv = .int .i64 (k : Int) ∧ tv = .int .i64 t ∧ Hid (mostGo ((endsT js ss).drop k) t = mostGo (endsT js ss) 0)) (fun _ iv => ss.length - (intOf iv).toNat)
  case atStart => exact ⟨0, 0, Nat.zero_le _, rfl, rfl, rfl⟩
  case round =>
    obtain ⟨k, t, hk, rfl, rfl, hT⟩ := hrel
    by_cases hlt : k < ss.length
    · have hkt : k < (endsT js ss).length := by rw [HL.out]; exact hlt
      have hck := HB.out.int hkt
      have HT2 := Lib.hid ((mostGo_drop (endsT js ss) k t hkt).symm.trans hT.out)
      have hk0 : (0 : Int) ≤ k := by omega
      have hk1 : (k : Int) < ss.length := by omega
      generalize (endsT js ss)[k]'hkt = x at *
      have hmx2 : (if t < x then x else t) = max t x := by split <;> omega
      clear hT hkt
      go_wp2
      all_goals
        go_round
        case rel => exact ⟨k + 1, max t x, by omega, by go_num, by first | rfl | (congr 1; omega), HT2⟩
        case measure => simp [intOf]; omega
    · obtain rfl : k = ss.length := by omega
      have hT' := hT.out
      rw [List.drop_eq_nil_of_le (by rw [HL.out]; omega)] at hT'
      have HT2 : Hid (t = mostGo (endsT js ss) 0) := hT'
      clear hT hT'
      go_wp2
      go_ret
      exact ⟨by rw [HV.out, ← HT2.out]; rfl, HF.out⟩
section
variable (A C D : Option Addr) (c d b : Nat) (js : List J) (m : Int) (E : List Pr) (ss : List Sp) (w : World) (hr : Row w A (jc js)) (hq : Row w C (pc E)) (hs : Row w D (spc ss)) (hn : js.length ≤ 10000000) (hl : E.length ≤ 10000000)
include hr hq hs hn hl
end
end Go.Proofs.YtjemjdlaoebffaaDoor

end
section
namespace Go.Proofs.YtjemjdlaoebffaaDoor
set_option linter.unusedSimpArgs false
set_option linter.unusedVariables false
open Go.RowKit
theorem rowSp {w : World} {g : Nat} {t : TypeId} {xs : List Sp} (h : BlockIs w g t (spc xs).toArray) : Row w (some ⟨g, 0, none⟩) (spc xs) := fun _ => ⟨_, rfl, h.lt, fun j u hu => by
  have h2 := h.cell j
  unfold Addr.add
  by_cases hj : j = 0
  · subst hj; rw [if_pos rfl, h2, ← Array.getElem?_toList]; exact hu
  · rw [if_neg hj]; simp only [Nat.zero_add]; rw [h2, ← Array.getElem?_toList]; exact hu⟩
def lenL (js : List J) (E : List Ed) (p : List Nat) (m : Nat) : Int := lenT js (listL js (tabB js.length E) p m)
set_option maxRecDepth 100000 in
set_option maxHeartbeats 2000000 in
theorem listLength_any (A D : Option Addr) (c d : Nat) (js : List J) (E : List Pr) (m : Nat) (ord : List Nat) (w : World) (hr : Row w A (jc js)) (ho : Row w D (ic (natI ord))) (hok : ∀ j ∈ js, okJ j = true) (h8 : js.length ≤ 8) (hirr : irrB js.length E js.length = true) (hm : 1 ≤ m ∧ m ≤ 4) (hp : ord.Perm (List.range js.length)) :
    Calls Tryd.prog 52 #[.agg (wlC (.slice A js.length c) (js.length : Int) (befN js.length (tabB js.length E))), .int .i64 (m : Int), .slice D ord.length d] w fun e w' => e = .returned (.int .i64 (lenL js E ord m)) ∧ Below w.heap.size w w' := by
  have hb1 := (Below.refl w.heap.size w).alloc (Nat.le_refl _) (.cells (wlC (.slice A js.length c) (js.length : Int) (befN js.length (tabB js.length E))) 83)
  have hB1 := BlockIs.new w 83 (wlC (.slice A js.length c) (js.length : Int) (befN js.length (tabB js.length E)))
  have H2 := Lib.hid (And.intro hb1.drew hB1.drew)
  have HLI := Lib.hid (fun W (hb : Below w.heap.size w W) => listPlan_any A D c d js E m ord W (hr.below hb) (ho.below hb) hok h8 hirr hm hp)
  have HLO := Lib.hid (fun (ss : List Sp) (D : Option Addr) W (hb : Below w.heap.size w W) (hs : Row W D (spc ss)) (ht : tksB js.length (m : Int) ss = true) => lengthOf_any A D c ss.length js ss (m : Int) (js.length : Int) (befN js.length (tabB js.length E)) W (hr.below hb) hs hok h8 ht)
  have HOKL := Lib.hid (list_ok (E := E) hok h8 hp hirr (show 0 < m by omega))
  have HLL := Lib.hid (listL_len js (tabB js.length E) ord m)
  have HV : Hid (lenL js E ord m = lenT js (listL js (tabB js.length E) ord m)) := rfl
  obtain ⟨RES, hRES⟩ : ∃ RES, listL js (tabB js.length E) ord m = RES := ⟨_, rfl⟩
  rw [hRES] at HLI HOKL HLL HV
  obtain ⟨B, hB⟩ : ∃ B, befN js.length (tabB js.length E) = B := ⟨_, rfl⟩
  rw [hB] at HLI HLO H2 ⊢
  clear hb1 hB1 hRES hB hr ho hok hirr hp
  unfold wlC
  go_enter Tryd.func52, Tryd.ntmps52
  go_wp2
  rw [show (#[.slice A js.length c, .int .i64 (js.length : Int), .int .u64 (B 0 : Int), .int .u64 (B 1 : Int), .int .u64 (B 2 : Int), .int .u64 (B 3 : Int), .int .u64 (B 4 : Int), .int .u64 (B 5 : Int), .int .u64 (B 6 : Int), .int .u64 (B 7 : Int)] : Array Value) = wlC (.slice A js.length c) (js.length : Int) B from rfl]
  refine wp_region_detP (γ := Nat) (by kernel_rfl) (fun x L W => (Below w.heap.size w W ∧ BlockIs W w.heap.size 83 (wlC (.slice A js.length c) (js.length : Int) B)) ∧ (L.getD 4 true = true → BlockIs W x 96 (spc RES).toArray)) (fun x kk => (#[.agg (wlC (.slice A js.length c) (js.length : Int) B), .agg (wlC (.slice A js.length c) (js.length : Int) B), .int .i64 (m : Int), .slice D ord.length d, .slice (some ⟨x, 0, none⟩) js.length js.length, .int .i64 (lenT js RES), .int .i64 (lenT js RES)] : Array Value).getD kk undef) 0 (by kernel_rfl) (by kernel_rfl) ⟨H2.out, fun h => absurd (h.symm.trans (rep_getD 7 4 (by decide))) (by decide)⟩ ?_ ?_
  · intro x L W hall hS
    have HF := Lib.hid hS.1.1
    clear hS hall H2
    simp only [putsL]
    go_wp2
    simp only [List.getElem_toArray, List.getElem_cons_zero, List.getElem_cons_succ, Act.put, Array.getD_eq_getD_getElem?, List.getElem?_toArray, List.getElem?_cons_zero, List.getElem?_cons_succ, Option.getD_some, List.setIfInBounds_toArray, List.set_cons_zero, List.set_cons_succ, Nat.reduceAdd]
    go_ret
    exact ⟨by rw [HV.out]; rfl, HF.out⟩
  · intro x L ac W iq op hLs hop hLi hLd hLn hS hlow hdep
    have hq : iq < 7 := (Array.getElem?_eq_some_iff.1 hop).1
    rcases (by omega : iq = 0 ∨ iq = 1 ∨ iq = 2 ∨ iq = 3 ∨ iq = 4 ∨ iq = 5 ∨ iq = 6) with rfl | rfl | rfl | rfl | rfl | rfl | rfl
    · obtain rfl := Option.some.inj hop
      have e3 : ac.tmps[3]?.getD undef = .pointer (some ⟨w.heap.size, 0, none⟩) := (Array.getD_eq_getD_getElem? ..).symm.trans (hlow 3 (by kernel_rfl))
      exact ⟨wanted_free rfl, .inl ⟨x, W, fun _ _ => rfl, exec_load10 (x := .tmp 3) rfl (hlow 3 (by kernel_rfl)) hS.1.2 rfl, ⟨hS.1, by rw [listed_ne (by decide)]; exact hS.2⟩⟩⟩
    · obtain rfl := Option.some.inj hop
      have e3 : ac.tmps[3]?.getD undef = .pointer (some ⟨w.heap.size, 0, none⟩) := (Array.getD_eq_getD_getElem? ..).symm.trans (hlow 3 (by kernel_rfl))
      exact ⟨wanted_free rfl, .inl ⟨x, W, fun _ _ => rfl, exec_load10 (x := .tmp 3) rfl (hlow 3 (by kernel_rfl)) hS.1.2 rfl, ⟨hS.1, by rw [listed_ne (by decide)]; exact hS.2⟩⟩⟩
    · obtain rfl := Option.some.inj hop
      have e1 : ac.tmps[1]?.getD undef = .int .i64 (m : Int) := (Array.getD_eq_getD_getElem? ..).symm.trans (hlow 1 (by kernel_rfl))
      exact ⟨wanted_free rfl, .inl ⟨x, W, fun _ _ => rfl, by simp [execOp, Act.eval, e1, go_sem], ⟨hS.1, by rw [listed_ne (by decide)]; exact hS.2⟩⟩⟩
    · obtain rfl := Option.some.inj hop
      have e2 : ac.tmps[2]?.getD undef = .slice D ord.length d := (Array.getD_eq_getD_getElem? ..).symm.trans (hlow 2 (by kernel_rfl))
      exact ⟨wanted_free rfl, .inl ⟨x, W, fun _ _ => rfl, by simp [execOp, Act.eval, e2, go_sem], ⟨hS.1, by rw [listed_ne (by decide)]; exact hS.2⟩⟩⟩
    · obtain rfl := Option.some.inj hop
      have e8 : ac.tmps[8]?.getD undef = .agg (wlC (.slice A js.length c) (js.length : Int) B) := (Array.getD_eq_getD_getElem? ..).symm.trans (hdep 1 _ 8 (by kernel_rfl) rfl rfl)
      have e9 : ac.tmps[9]?.getD undef = .int .i64 (m : Int) := (Array.getD_eq_getD_getElem? ..).symm.trans (hdep 2 _ 9 (by kernel_rfl) rfl rfl)
      have e10 : ac.tmps[10]?.getD undef = .slice D ord.length d := (Array.getD_eq_getD_getElem? ..).symm.trans (hdep 3 _ 10 (by kernel_rfl) rfl rfl)
      refine ⟨wanted_free rfl, .inr (.inl ⟨61, #[.agg (wlC (.slice A js.length c) (js.length : Int) B), .int .i64 (m : Int), .slice D ord.length d], by simp [execOp, Act.eval, e8, e9, e10, go_sem], (HLI.out W hS.1.1).mono ?_⟩)⟩
      rintro e w2 ⟨g, rfl, hg, hG, hb2⟩
      refine ⟨g, (fun j hj => ?_), rfl, ⟨hS.1.1.trans (hb2.mono hS.1.1.size), hS.1.2.below hb2⟩, fun _ => hG⟩
      by_cases h15 : j < 7
      · rcases (by omega : j = 0 ∨ j = 1 ∨ j = 2 ∨ j = 3 ∨ j = 4 ∨ j = 5 ∨ j = 6) with rfl | rfl | rfl | rfl | rfl | rfl | rfl <;> first | rfl | (exact absurd hj (by rw [hLi]; decide))
      · have h1 : 7 ≤ j := by omega
        show Array.getD _ j undef = Array.getD _ j undef
        rw [Array.getD_eq_getD_getElem?, Array.getD_eq_getD_getElem?, Array.getElem?_eq_none (by simpa using h1), Array.getElem?_eq_none (by simpa using h1)]
    · obtain rfl := Option.some.inj hop
      have e7 : ac.tmps[7]?.getD undef = .agg (wlC (.slice A js.length c) (js.length : Int) B) := (Array.getD_eq_getD_getElem? ..).symm.trans (hdep 0 _ 7 (by kernel_rfl) rfl rfl)
      have e11 : ac.tmps[11]?.getD undef = .slice (some ⟨x, 0, none⟩) js.length js.length := (Array.getD_eq_getD_getElem? ..).symm.trans (hdep 4 _ 11 (by kernel_rfl) rfl rfl)
      have hP := hS.2 (hLd 4 (by kernel_rfl))
      have hLE := HLO.out RES (some ⟨x, 0, none⟩) W hS.1.1 (rowSp hP) HOKL.out
      rw [HLL.out] at hLE
      refine ⟨wanted_free rfl, .inr (.inl ⟨97, #[.agg (wlC (.slice A js.length c) (js.length : Int) B), .slice (some ⟨x, 0, none⟩) js.length js.length], by simp [execOp, Act.eval, e7, e11, go_sem], hLE.mono ?_⟩)⟩
      rintro e w2 ⟨rfl, hb2⟩
      exact ⟨x, fun _ _ => rfl, rfl, ⟨hS.1.1.trans (hb2.mono hS.1.1.size), hS.1.2.below hb2⟩, by rw [listed_ne (by decide)]; exact fun h => (hS.2 h).below hb2⟩
    · obtain rfl := Option.some.inj hop
      have e12 : ac.tmps[12]?.getD undef = .int .i64 (lenT js RES) := (Array.getD_eq_getD_getElem? ..).symm.trans (hdep 5 _ 12 (by kernel_rfl) rfl rfl)
      exact ⟨wanted_free rfl, .inl ⟨x, W, fun _ _ => rfl, by simp [execOp, Act.eval, e12, go_sem], ⟨hS.1, by rw [listed_ne (by decide)]; exact hS.2⟩⟩⟩
def lwR (js : List J) (m : Int) (E : List Pr) (o : List Int) : Bool × Bool := if forB js m E o && !decide (m = 4) then (decide (lenL js E (natsOf o) m.toNat < lenL js E (natsOf o) (m.toNat + 1)), true) else (false, false)
section
variable (A C D : Option Addr) (c d b : Nat) (js : List J) (m : Int) (E : List Pr) (o : List Int) (w : World) (hr : Row w A (jc js)) (hq : Row w C (pc E)) (ho : Row w D (ic o)) (hn : js.length ≤ 10000000) (hl : E.length ≤ 10000000) (hm : o.length ≤ 10000000)
include hr hq ho hn hl hm
end
end Go.Proofs.YtjemjdlaoebffaaDoor

end
section
namespace Go.Proofs.YtjemjdlaoebffaaDoor
theorem tabTo_sub {E F : List Ed} (h : ∀ e ∈ F, e ∈ E) : ∀ k i j, tabTo F k i j = true → tabTo E k i j = true
  | 0, i, j, ht => by
    simp only [tabTo, edB, List.contains_iff_mem] at ht ⊢
    exact h _ ht
  | k + 1, i, j, ht => by
    simp only [tabTo, Bool.or_eq_true, Bool.and_eq_true] at ht ⊢
    rcases ht with ht | ht
    · exact .inl (tabTo_sub h k i j ht)
    · exact .inr ⟨tabTo_sub h k i k ht.1, tabTo_sub h k k j ht.2⟩
theorem irr_sub {n : Nat} {E F : List Ed} (h : ∀ e ∈ F, e ∈ E) {k : Nat} (hi : irrB n E k = true) : irrB n F k = true := by
  unfold irrB at hi ⊢
  rw [List.all_eq_true] at hi ⊢
  intro i hm
  have := hi i hm
  cases hf : tabB n F i i
  · rfl
  · rw [show tabB n E i i = true from tabTo_sub h n i i hf] at this
    exact this
theorem erase_getD (E : List Ed) (k i : Nat) : (E.eraseIdx k).getD i (0, 0) = if i < k then E.getD i (0, 0) else E.getD (i + 1) (0, 0) := by
  simp only [List.getD_eq_getElem?_getD, List.getElem?_eraseIdx]
  split <;> rfl
theorem pairs_erase {n : Int} {E : List Ed} {k : Nat} (hk : k < E.length) (h : pairsTo n E E.length = true) : pairsTo n (E.eraseIdx k) (E.eraseIdx k).length = true := by
  have hl : (E.eraseIdx k).length = E.length - 1 := List.length_eraseIdx_of_lt hk
  unfold pairsTo
  rw [List.all_eq_true, hl]
  intro i hi
  have hi := List.mem_range.1 hi
  have h0 := pairsTo_at h (show i < E.length by omega)
  have h1 := pairsTo_at h (show i + 1 < E.length by omega)
  unfold edOk at h0 h1 ⊢
  simp only [erase_getD]
  simp only [Bool.and_eq_true, Bool.or_eq_true, decide_eq_true_eq, Nat.add_sub_cancel] at h0 h1 ⊢
  by_cases hik : i < k
  · rw [if_pos hik, if_pos (show i - 1 < k by omega)]
    exact h0
  · rw [if_neg hik]
    refine ⟨h1.1, ?_⟩
    by_cases hz : i = 0
    · exact .inl hz
    · right
      by_cases he : i - 1 < k
      · rw [if_pos he]
        have a := h0.2.resolve_left hz
        have b := h1.2.resolve_left (by omega)
        omega
      · rw [if_neg he, show i - 1 + 1 = i by omega]
        exact h1.2.resolve_left (by omega)
theorem prec_erase {n : Int} {E : List Ed} {k : Nat} (hk : k < E.length) (h : precB n E = true) : precB n (E.eraseIdx k) = true := by
  have hl : (E.eraseIdx k).length = E.length - 1 := List.length_eraseIdx_of_lt hk
  unfold precB at h ⊢
  rw [Bool.and_eq_true] at h ⊢
  obtain ⟨h0, h8, h28, hp⟩ := pairs_out h.1
  refine ⟨?_, irr_sub (fun e he => List.mem_of_mem_eraseIdx he) h.2⟩
  unfold pairsB
  rw [pairs_erase hk hp, decide_eq_true (show 0 ≤ n ∧ n ≤ 8 from ⟨h0, h8⟩), decide_eq_true (show (E.eraseIdx k).length ≤ 28 by omega)]
  rfl
theorem erase_parts (E : List Ed) (k : Nat) : E.take k ++ E.drop (k + 1) = E.eraseIdx k := (List.eraseIdx_eq_take_drop_succ E k).symm
end Go.Proofs.YtjemjdlaoebffaaDoor

end
section
namespace Go.Proofs.YtjemjdlaoebffaaDoor
open Go.RowKit
theorem pc_oneV {xs : List Pr} {u : Value} (hu : u ∈ pc xs) : u.oneCell' = true := by
  unfold pc at hu
  obtain ⟨x, _, h⟩ := List.mem_flatMap.1 hu
  simp only [cellsP, List.mem_cons, List.not_mem_nil, or_false] at h
  rcases h with rfl | rfl <;> rfl
theorem pc_app (xs ys : List Pr) : pc xs ++ pc ys = pc (xs ++ ys) := by unfold pc; simp
/-- A whole list behind a list of one's own. -/
theorem app_ownP {w : World} {B : Nat} {v : Value} {xs ys : List Pr} (X : Option Addr) (cx : Nat) (hown : w.ownsRow B 37 2 v xs.length (pc xs)) (hr : Row w X (pc ys)) (h1 : xs.length + ys.length ≤ 1000) (hB : B ≤ w.heap.size) :
    ∃ v' w', (Builtin.append_ #[35, 35] 35 #[v, .slice X ys.length cx]).run Tryd.prog w = .ok v' w' ∧ w'.ownsRow B 37 2 v' (xs ++ ys).length (pc (xs ++ ys)) ∧ ∀ W C, C ≤ B → Below C W w → Below C W w' := by
  obtain ⟨i0, hi, hz0, hz1, hz2⟩ := info_parts infoPp
  by_cases h0 : 0 < ys.length
  · obtain ⟨ad, rfl, _, hs⟩ := hr (by rw [pc_len]; omega)
    obtain ⟨v', w', hrun, hown', hgrow, _⟩ := append_at (P := Tryd.prog) w B 35 35 37 i0 (.agg #[.int .i64 0, .int .i64 0]) 2 16 Tryd.underlying35 hi hz0 hz1 hz2 rfl (by decide) v xs.length _ hown ad ys.length cx (pc ys) (by rw [pc_len]; omega) hs (fun u hu => pc_oneV hu) h0 (by unfold maxLen; omega) (by omega) hB
    refine ⟨v', w', hrun, ?_, fun W C hC hb => hb.grown hgrow (Nat.le_trans hC hB) (fun j hj => Nat.le_trans hC (hown.lt j hj).1)⟩
    rw [List.length_append, ← pc_app]
    exact hown'
  · have hy : ys = [] := List.eq_nil_of_length_eq_zero (by omega)
    subst hy
    refine ⟨v, w, ?_, by simpa using hown, fun _ _ _ hb => hb⟩
    obtain ⟨V, d, rfl, hle, _⟩ := own_slice hown
    cases V <;> cases X <;> simp [Builtin.append_, run_underlying Tryd.underlying35, sizeOf, typeInfo, hi, Builtin.lenOf, hle, storeCells, Builtin.firstCells, loadCells, loadCellsFrom]
section
set_option maxRecDepth 100000 in
set_option maxHeartbeats 1000000 in
theorem growNilP_any (n : Nat) (z : Int) (hz : z = n) (hn : n ≤ 1000) (w : World) : Calls Tryd.prog 99 #[.slice none 0 0, .int .i64 z] w fun e w' => ∃ v, e = .returned v ∧ w'.ownsRow w.heap.size 37 2 v 0 (pc []) ∧ Below w.heap.size w w' := by
  subst hz
  obtain ⟨i0, hi, hz0, hz1, hz2⟩ := info_parts infoPp
  by_cases h0 : n = 0
  · subst h0
    go_enter Tryd.func99, Tryd.ntmps99
    go_wp2
    go_ret
    exact ⟨_, rfl, ⟨rfl, .inl ⟨rfl, rfl⟩⟩, Below.refl _ _⟩
  · have hn0 : (0 : Int) < n := by omega
    have hneg : ¬ ((n : Int) < 0) := by omega
    have hrun : ∀ ty, (Builtin.append_ #[35, 3] ty #[.slice none 0 0, .int .i64 (n : Int)]).run Tryd.prog w = _ := fun ty =>
      Lib.run_append_nil_zeros w 35 3 ty 37 i0 (.agg #[.int .i64 0, .int .i64 0]) .i64 .i64 Tryd.underlying35 Tryd.underlying3 hi hz0 n (by omega) (by omega) (by omega) (by rw [hz2]; omega)
    have hge := grownCap_ge w n 0 37
    have hle := grownCap_le_maxLen w n 0 37 (by unfold maxLen; omega)
    have hb : Below w.heap.size w w.drew := (Below.refl _ _).drew
    have HO : Hid (∀ G : Nat, n ≤ G → G ≤ maxLen → (w.drew.alloc (.cells (Builtin.zeroCells (Value.agg #[.int .i64 0, .int .i64 0]).cells n ++ Builtin.zeroCells (Value.agg #[.int .i64 0, .int .i64 0]).cells (G - n)) 37)).ownsRow w.heap.size 37 2 (.slice (some ⟨w.heap.size, 0, none⟩) 0 G) 0 (pc []) ∧ Below w.heap.size w (w.drew.alloc (.cells (Builtin.zeroCells (Value.agg #[.int .i64 0, .int .i64 0]).cells n ++ Builtin.zeroCells (Value.agg #[.int .i64 0, .int .i64 0]).cells (G - n)) 37))) := fun G h1 h2 => by
      refine ⟨?_, hb.alloc (Nat.le_refl _) _⟩
      have h := BlockIs.new w.drew 37 (Builtin.zeroCells (Value.agg #[.int .i64 0, .int .i64 0]).cells n ++ Builtin.zeroCells (Value.agg #[.int .i64 0, .int .i64 0]).cells (G - n))
      have h3 := h.own (base := w.heap.size) (n := 0) (c := G) (size := 2) (Nat.le_refl _) (by rw [Array.size_append, size_zeroCells, size_zeroCells]; show n * 2 + (G - n) * 2 = G * 2; omega) (Nat.zero_le _) h2 (by omega)
      simpa [pc] using h3
    have HG := Lib.hid (HO.out _ hge hle)
    clear HO hb
    obtain ⟨G, hG⟩ : ∃ G, G = grownCap w n 0 37 := ⟨_, rfl⟩
    rw [← hG] at hrun HG hge hle
    clear hG
    go_enter Tryd.func99, Tryd.ntmps99
    go_wp2_with (at_builtin; refine Lib.wpList_append_run _ rfl _ _ _ _ rfl _ _ rfl rfl _ _ (hrun _) ?_)
    all_goals
      go_ret
      exact ⟨_, rfl, HG.out.1, HG.out.2⟩
set_option maxRecDepth 100000 in
set_option maxHeartbeats 2000000 in
theorem concat2P_any (X Y : Option Addr) (cx cy g : Nat) (xs ys : List Pr) (w : World) (hx : Row w X (pc xs)) (hy : Row w Y (pc ys)) (hg0 : w.cell? ⟨g, 0, none⟩ = some (.slice X xs.length cx)) (hg1 : w.cell? ⟨g, 1, none⟩ = some (.slice Y ys.length cy)) (hgl : g < w.heap.size) (h1 : xs.length ≤ 100) (h2 : ys.length ≤ 100) :
    Calls Tryd.prog 54 #[.slice (some ⟨g, 0, none⟩) 2 2] w fun e w' => ∃ v, e = .returned v ∧ w'.ownsRow w.heap.size 37 2 v (xs ++ ys).length (pc (xs ++ ys)) ∧ Below w.heap.size w w' := by
  have HG := Lib.hid (growNilP_any (xs.length + ys.length) ((xs.length : Int) + ys.length) (by omega) (by omega) w)
  have HX := Lib.hid hx
  have HY := Lib.hid hy
  clear hx hy
  go_enter Tryd.func54, Tryd.ntmps54
  go_wp2
  go_loopw [3, 11] (fun s i wr => ∃ k : Nat, k ≤ 2 ∧ i = .int .i64 (k : Int) ∧ s = .int .i64 (if k = 0 then 0 else if k = 1 then (xs.length : Int) else (xs.length : Int) + ys.length) ∧ wr = w) (fun _ i _ => 2 - (intOf i).toNat)
  case atStart => exact ⟨0, by omega, rfl, rfl, rfl⟩
  case round =>
    obtain ⟨k, hk, rfl, rfl, hw⟩ := hrel
    obtain rfl := hw.symm
    rcases (by omega : k = 0 ∨ k = 1 ∨ k = 2) with rfl | rfl | rfl
    · clear HG
      go_wp2
      go_roundw
      case rel => exact ⟨1, by omega, by go_num, by simp, trivial⟩
      case measure => simp [intOf]
    · clear HG
      have hneg : ¬ ((xs.length : Int) + ys.length < 0) := by omega
      have hin : IntKind.i64.wrap ((xs.length : Int) + ys.length) = (xs.length : Int) + ys.length := by rw [IntKind.wrap_i64]; omega
      go_wp2
      go_roundw
      case rel => exact ⟨2, by omega, by go_num, by simp, trivial⟩
      case measure => simp [intOf]
    · simp only [show ¬ (2 : Nat) = 0 by decide, show ¬ (2 : Nat) = 1 by decide, if_false]
      go_wp2_with fail
      refine HG.out.mono ?_
      rintro e w2 ⟨v2, rfl, ho2, hb2⟩
      have H2 := Lib.hid (And.intro ho2 hb2)
      have HG0 := Lib.hid hg0
      have HG1 := Lib.hid hg1
      clear ho2 hb2 HG hg0 hg1
      go_wp2
      go_loopw [6, 27] (fun v i wr => ∃ (k : Nat) (v' : Value) (L : List Pr), k ≤ 2 ∧ i = .int .i64 (k : Int) ∧ v = v' ∧ Hid (L = if k = 0 then [] else if k = 1 then xs else xs ++ ys) ∧ Hid (wr.ownsRow w.heap.size 37 2 v' L.length (pc L) ∧ Below w.heap.size w wr)) (fun _ i _ => 2 - (intOf i).toNat)
      case atStart => exact ⟨0, _, [], by omega, rfl, rfl, Lib.hid rfl, Lib.hid H2.out⟩
      case round =>
        obtain ⟨k, v, L, hk, rfl, rfl, HL, HK⟩ := hrel
        rcases (by omega : k = 0 ∨ k = 1 ∨ k = 2) with rfl | rfl | rfl
        · have hL : L = [] := by simpa using HL.out
          subst hL
          have hc := (HK.out.2.cell (p := ⟨g, 0, none⟩) hgl).trans HG0.out
          obtain ⟨v', w', hrun, ho', hw'⟩ := app_ownP X cx HK.out.1 (HX.out.below HK.out.2) (by first | omega | (simp; omega)) HK.out.2.size
          have HN := Lib.hid (And.intro ho' (hw' w w.heap.size (Nat.le_refl _) HK.out.2))
          clear ho' hw' HK HL
          go_wp2_with (at_builtin; refine Lib.wpList_append_run _ rfl _ _ _ _ rfl _ _ rfl rfl _ _ hrun ?_)
          go_roundw
          case rel => exact ⟨1, v', _, by omega, by go_num, rfl, Lib.hid (by simp), HN⟩
          case measure => simp [intOf]
        · have hL : L = xs := by simpa using HL.out
          subst hL
          have hc := (HK.out.2.cell (p := ⟨g, 1, none⟩) hgl).trans HG1.out
          obtain ⟨v', w', hrun, ho', hw'⟩ := app_ownP Y cy HK.out.1 (HY.out.below HK.out.2) (by first | omega | (simp; omega)) HK.out.2.size
          have HN := Lib.hid (And.intro ho' (hw' w w.heap.size (Nat.le_refl _) HK.out.2))
          clear ho' hw' HK HL
          go_wp2_with (at_builtin; refine Lib.wpList_append_run _ rfl _ _ _ _ rfl _ _ rfl rfl _ _ hrun ?_)
          go_roundw
          case rel => exact ⟨2, v', _, by omega, by go_num, rfl, Lib.hid (by simp), HN⟩
          case measure => simp [intOf]
        · have hL : L = xs ++ ys := by simpa using HL.out
          subst hL
          clear HL
          go_wp2
          go_ret
          exact ⟨_, rfl, HK.out.1, HK.out.2⟩
end
end Go.Proofs.YtjemjdlaoebffaaDoor

end
section
namespace Go.Proofs.YtjemjdlaoebffaaDoor
open Go.RowKit
theorem slice_hP (ad : Addr) (n c : Nat) (h : Nat) (w : World) (hc : h ≤ c) : (Instr.sliceAt 35 (.slice (some ad) n c) none (some (.int .i64 (h : Int))) none).run Tryd.prog w = .ok (.slice (some ad) h c) w := by
  simp [hc, go_sem]
def tailP (ad : Addr) (l c : Nat) : Addr := if c = l then ad else ad.add (l * 2)
theorem slice_lP (ad : Addr) (n c : Nat) (l : Nat) (w : World) (hl : l ≤ n) : (Instr.sliceAt 35 (.slice (some ad) n c) (some (.int .i64 (l : Int))) none none).run Tryd.prog w = .ok (.slice (some (tailP ad l c)) (n - l) (c - l)) w := by
  unfold tailP
  simp [hl, go_sem]
  split <;> simp_all
theorem pc_split (xs : List Pr) (k : Nat) : pc xs = pc (xs.take k) ++ pc (xs.drop k) := by rw [pc_app, List.take_append_drop]
theorem row_takeP {w : World} {A : Option Addr} {xs : List Pr} (h : Row w A (pc xs)) (k : Nat) : Row w A (pc (xs.take k)) := by
  intro h0
  have hs := pc_split xs k
  obtain ⟨ad, h1, h2, h3⟩ := h (by rw [hs, List.length_append]; omega)
  refine ⟨ad, h1, h2, fun j u hu => h3 j u ?_⟩
  rw [hs, List.getElem?_append_left (List.getElem?_eq_some_iff.1 hu).1]
  exact hu
theorem row_tailP {w : World} {ad : Addr} {xs : List Pr} {l c : Nat} (hr : Row w (some ad) (pc xs)) (hl : l ≤ xs.length) (hc : xs.length ≤ c) : Row w (some (tailP ad l c)) (pc (xs.drop l)) := by
  intro h0
  have hd : 0 < (xs.drop l).length := by rw [pc_len] at h0; omega
  have hlt : l < xs.length := by simp at hd; omega
  unfold tailP
  rw [if_neg (by omega)]
  have hs := pc_split xs l
  have hp : (pc (xs.take l)).length = l * 2 := by rw [pc_len, List.length_take]; omega
  have hg : ∀ j, (pc xs)[l * 2 + j]? = (pc (xs.drop l))[j]? := fun j => by
    rw [hs, List.getElem?_append_right (by omega), hp, Nat.add_sub_cancel_left]
  refine ⟨_, rfl, ?_, fun j u hu => ?_⟩
  · obtain ⟨a, h1, h2, _⟩ := hr (by rw [hs, List.length_append]; omega)
    obtain rfl := Option.some.inj h1
    have hb : (ad.add (l * 2)).block = ad.block := by unfold Addr.add; split <;> rfl
    rw [hb]; exact h2
  · rw [Addr.add_add]
    exact row_src hr _ _ ((hg j).trans hu)
end Go.Proofs.YtjemjdlaoebffaaDoor

end
section
namespace Go.Proofs.YtjemjdlaoebffaaDoor
set_option linter.unusedSimpArgs false
set_option linter.unusedVariables false
open Go.RowKit
theorem find_no {n : Nat} {f : Nat → Bool} (h : ∀ i, i < n → f i = false) : (List.range n).find? f = none := List.find?_eq_none.2 fun i hi => by rw [h i (List.mem_range.1 hi)]; decide
theorem find_yes {n k : Nat} {f : Nat → Bool} (hk : k < n) (ht : f k = true) (h : ∀ i, i < k → f i = false) : (List.range n).find? f = some k := List.find?_range_eq_some.2 ⟨ht, List.mem_range.2 hk, fun j hj => by rw [h j hj]; rfl⟩
theorem good_erase {js : List J} {m : Int} {E : List Pr} {k : Nat} (hk : k < E.length) (h : goodB js m E = true) : goodB js m (E.eraseIdx k) = true := by
  unfold goodB at h ⊢
  simp only [Bool.and_eq_true] at h ⊢
  exact ⟨h.1, h.2.1, h.2.2.1, prec_erase hk h.2.2.2⟩
/-- Whether the list plan is longer without the pair at a place. -/
def lwoB (js : List J) (E : List Pr) (p : List Nat) (m : Nat) (i : Nat) : Bool := decide (lenL js E p m < lenL js (E.eraseIdx i) p m)
def lwoF (js : List J) (E : List Pr) (p : List Nat) (m : Nat) : Pr × Bool := match (List.range E.length).find? (lwoB js E p m) with
  | some i => (E.getD i (0, 0), true)
  | none => ((0, 0), false)
def lwoR (js : List J) (m : Int) (E : List Pr) (o : List Int) : Pr × Bool := if forB js m E o then lwoF js E (natsOf o) m.toNat else ((0, 0), false)
theorem lwo_no {js : List J} {E : List Pr} {p : List Nat} {m : Nat} (h : ∀ i, i < E.length → lwoB js E p m i = false) : lwoF js E p m = ((0, 0), false) := by unfold lwoF; rw [find_no h]
theorem lwo_yes {js : List J} {E : List Pr} {p : List Nat} {m k : Nat} (hk : k < E.length) (ht : lwoB js E p m k = true) (h : ∀ i, i < k → lwoB js E p m i = false) : lwoF js E p m = (E[k], true) := by unfold lwoF; rw [find_yes hk ht h]; simp [hk]
def RetOB (w : World) (r : Pr × Bool) (e : Ending) (w' : World) : Prop := e = .returned (.tuple #[.agg #[.int .i64 r.1.1, .int .i64 r.1.2], .bool r.2]) ∧ Below w.heap.size w w'
structure Wq where
  g0 : Nat
  v1 : Value
  v2 : Value
section
variable (A C D : Option Addr) (c d b : Nat) (js : List J) (m : Int) (E : List Pr) (o : List Int) (w : World) (hr : Row w A (jc js)) (hq : Row w C (pc E)) (ho : Row w D (ic o)) (hn : js.length ≤ 10000000) (hl : E.length ≤ 10000000) (hm : o.length ≤ 10000000)
include hr hq ho hn hl hm
set_option maxRecDepth 100000 in
set_option maxHeartbeats 1000000 in
theorem spec_LongerWithout (hcap : E.length ≤ d) : Calls Tryd.prog 20 #[.slice A js.length c, .int .i64 m, .slice C E.length d, .slice D o.length b] w (RetOB w (lwoR js m E o)) := by
  have HRR : Hid (lwoR js m E o = if forB js m E o then lwoF js E (natsOf o) m.toNat else ((0, 0), false)) := rfl
  have b0 := (Below.refl w.heap.size w).alloc (Nat.le_refl _) (.cells #[.int .i64 0, .int .i64 0] 37)
  have HZ := Lib.hid (BlockIs.new w 37 #[.int .i64 0, .int .i64 0])
  have HG := Lib.hid (l7Ordered_any A C D c d b js m E o _ (hr.below b0) (hq.below b0) (ho.below b0) hn hl hm)
  have HB0 := Lib.hid b0
  have HR := Lib.hid hr
  have HQ := Lib.hid hq
  have HO := Lib.hid ho
  clear hr hq ho b0
  cases hg : forB js m E o
  · rw [hg] at HRR HG
    clear hg
    go_enter Tryd.func20, Tryd.ntmps20
    go_wp2_with fail
    refine HG.out.mono ?_
    rintro e w1 ⟨rfl, hb1⟩
    have HZ1 := Lib.hid (HZ.out.below hb1)
    have HBF := Lib.hid (HB0.out.trans (hb1.mono HB0.out.size))
    clear hb1 HG
    have r0 : w1.cell? ⟨w.heap.size, 0, none⟩ = some (.int .i64 0) := ((HZ1.out).cell 0).trans rfl
    have r1 : w1.cell? ⟨w.heap.size, 1, none⟩ = some (.int .i64 0) := ((HZ1.out).cell 1).trans rfl
    have f0 := (HZ1.out).frozen 0
    have f1 := (HZ1.out).frozen 1
    go_wp2
    have zf := ((HZ1.out).set 0 (.int .i64 (0))).set 1 (.int .i64 (0))
    have hbe : Below w.heap.size w ((w1.setCell ⟨w.heap.size, 0, none⟩ (.int .i64 (0))).setCell ⟨w.heap.size, 1, none⟩ (.int .i64 (0))) := ((HBF.out).setCell (p := ⟨w.heap.size, 0, none⟩) (Nat.le_refl _) _).setCell (p := ⟨w.heap.size, 1, none⟩) (Nat.le_refl _) _
    generalize ((w1.setCell ⟨w.heap.size, 0, none⟩ (.int .i64 (0))).setCell ⟨w.heap.size, 1, none⟩ (.int .i64 (0))) = V at zf hbe ⊢
    have e1 : V.cell? ⟨w.heap.size, 0, none⟩ = some (.int .i64 (0)) := (zf.cell 0).trans rfl
    have e2 : V.cell? ⟨w.heap.size, 1, none⟩ = some (.int .i64 (0)) := (zf.cell 1).trans rfl
    refine bodyPost_ret (v := .tuple #[.agg #[.int .i64 (0), .int .i64 (0)], .bool false]) (by simp [results, Tryd.f20, e1, e2, go_sem]) rfl ⟨by rw [HRR.out]; rfl, hbe⟩
  · obtain ⟨hgo, p, mm, rfl, hnp, hp, rfl, hmt, hm1, hm4⟩ := for_parts hg
    obtain ⟨hok, h8, hirr, hE, _, hpc, _⟩ := good_parts hgo
    have h28 : E.length ≤ 28 := (pairs_out (Bool.and_eq_true _ _ ▸ hpc : pairsB _ _ = true ∧ _).1).2.2.1
    rw [hnp, hmt, hg] at HRR
    rw [hg] at HG
    have hnl : (natI p).length = p.length := by simp
    rw [hnl] at HG
    have HER := Lib.hid (fun (k : Nat) (hk : k < E.length) => let h := good_parts (good_erase hk hgo); And.intro h.2.2.1 h.2.2.2.1)
    have HLI := Lib.hid (fun (F : List Pr) (X : Option Addr) (cx : Nat) (hF : F.length ≤ 28) (hi : irrB js.length F js.length = true) (he : EdsIn js.length F) W (hb : Below w.heap.size w W) (hx : Row W X (pc F)) => l7List_any A X D c cx b js mm F p W (HR.out.below hb) hx (HO.out.below hb) (by omega) hok h8 hi he ⟨hm1, hm4⟩ hp)
    have HLE := Lib.hid (fun (F : List Pr) (hi : irrB js.length F js.length = true) g W (hb : Below w.heap.size w W) (hs : BlockIs W g 96 (spc (listL js (tabB js.length F) p mm)).toArray) => by
      have h := l7Length_any A (some ⟨g, 0, none⟩) c js.length js (listL js (tabB js.length F) p mm) (mm : Int) W (HR.out.below hb) (rowSp hs) hok h8 (list_ok hok h8 hp hi (show 0 < mm by omega))
      rw [listL_len] at h
      exact h)
    have HL1 := Lib.hid (HLI.out E C d h28 hirr hE)
    have HE1 := Lib.hid (HLE.out E hirr)
    have HV1 : Hid (lenT js (listL js (tabB js.length E) p mm) = lenL js E p mm) := rfl
    rw [HV1.out] at HE1
    have HEND := Lib.hid (@lwo_no js E p mm)
    have HHIT := Lib.hid (fun k (hk : k < E.length) => @lwo_yes js E p mm k hk)
    have HBD : Hid (∀ k, lwoB js E p mm k = decide (lenL js E p mm < lenL js (E.eraseIdx k) p mm)) := fun _ => rfl
    have HVK : Hid (∀ k, lenT js (listL js (tabB js.length (E.eraseIdx k)) p mm) = lenL js (E.eraseIdx k) p mm) := fun _ => rfl
    generalize lenL js E p mm = len0 at *
    generalize listL js (tabB js.length E) p mm = RES1 at *
    clear hg hgo hok hirr hE hp hnp hmt hnl hpc
    go_enter Tryd.func20, Tryd.ntmps20
    go_wp2_with fail
    refine HG.out.mono ?_
    rintro e w1 ⟨rfl, hb1⟩
    have HZ1 := Lib.hid (HZ.out.below hb1)
    have HB1 := Lib.hid (HB0.out.trans (hb1.mono HB0.out.size))
    have HC1 := Lib.hid (HL1.out w1 HB1.out (HQ.out.below HB1.out))
    clear hb1 HG HL1 HZ HB0
    go_wp2_with fail
    refine HC1.out.mono ?_
    rintro e w2 ⟨g, rfl, hgs, hP, hb2⟩
    have HZ2 := Lib.hid (HZ1.out.below hb2)
    have hbb := HB1.out.trans (hb2.mono HB1.out.size)
    have HC2 := Lib.hid (HE1.out g w2 hbb hP)
    have HB2 := Lib.hid hbb
    clear hb2 hgs hP hbb HC1 HB1 HE1 HZ1
    go_wp2_with fail
    refine HC2.out.mono ?_
    rintro e w3 ⟨rfl, hb3⟩
    have HZ3 := Lib.hid (HZ2.out.below hb3)
    have HB3 := Lib.hid (HB2.out.trans (hb3.mono HB2.out.size))
    clear hb3 HC2 HB2 HZ2
    go_wp2
    go_loopw [11] (fun iv wr => ∃ k : Nat, k ≤ E.length ∧ iv = .int .i64 (k : Int) ∧ Hid (∀ i, i < k → lwoB js E p mm i = false) ∧ Hid (Below w.heap.size w wr ∧ BlockIs wr w.heap.size 37 #[.int .i64 0, .int .i64 0])) (fun iv _ => E.length - (intOf iv).toNat)
    case atStart => exact ⟨0, Nat.zero_le _, rfl, fun _ h => absurd h (Nat.not_lt_zero _), HB3.out, HZ3.out⟩
    case round =>
      obtain ⟨k, hk, rfl, HN, HI⟩ := hrel
      by_cases hlt : k < E.length
      · have hk1 : (k : Int) < E.length := by omega
        have hk0 : (0 : Int) ≤ k := by omega
        have hkw : IntKind.i64.wrap ((k : Int) + 1) = (k : Int) + 1 := IntWalk.i64_in _ (by omega)
        obtain ⟨ad, hC, _, _⟩ := HQ.out (by rw [pc_len]; omega)
        subst hC
        have hel : (E.eraseIdx k).length = E.length - 1 := List.length_eraseIdx_of_lt hlt
        obtain ⟨hirk, hedk⟩ := HER.out k hlt
        have hEp := erase_parts E k
        have HLk := Lib.hid (fun X cx => HLI.out (E.eraseIdx k) X cx (by omega) hirk hedk)
        have HEk := Lib.hid (HLE.out (E.eraseIdx k) hirk)
        rw [HVK.out k] at HEk
        have HBk := Lib.hid (HBD.out k)
        have HHk := Lib.hid (fun h => HHIT.out k hlt h HN.out)
        clear HER HLI HLE HVK HBD HHIT
        have htl : (E.take k).length = k := by rw [List.length_take]; omega
        have hdl : (E.drop (k + 1)).length = E.length - (k + 1) := List.length_drop
        go_wp2
        have HROW : Hid (Row wr (some ad) (pc E)) := HQ.out.below HI.out.1
        clear HQ hEp
        have hEp := erase_parts E k
        refine wp_region_detP (γ := Wq) (by kernel_rfl) (fun x L W => Below wr.heap.size wr W ∧ (L.getD 0 true = true → L.getD 4 true = false → W.ownsRow wr.heap.size 37 2 (.slice (some ⟨x.g0, 0, none⟩) 0 0) ([] : List Pr).length (pc ([] : List Pr))) ∧ (L.getD 4 true = true → L.getD 9 true = false → W.ownsRow wr.heap.size 37 2 x.v1 (E.take k).length (pc (E.take k))) ∧ (L.getD 9 true = true → W.ownsRow wr.heap.size 37 2 x.v2 (E.eraseIdx k).length (pc (E.eraseIdx k)))) (fun x kk => (#[.slice (some ⟨x.g0, 0, none⟩) 0 0, .slice (some ad) E.length d, .int .i64 (k : Int), .slice (some ad) k d, x.v1, .slice (some ad) E.length d, .int .i64 (k : Int), .int .i64 ((k : Int) + 1), .slice (some (tailP ad (k + 1) d)) (E.length - (k + 1)) (d - (k + 1)), x.v2, x.v2] : Array Value).getD kk undef) ⟨0, undef, undef⟩ (by kernel_rfl) (by kernel_rfl) ⟨(Below.refl _ _).drew, fun h => absurd (h.symm.trans (rep_getD 11 0 (by decide))) (by decide), fun h => absurd (h.symm.trans (rep_getD 11 4 (by decide))) (by decide), fun h => absurd (h.symm.trans (rep_getD 11 9 (by decide))) (by decide)⟩ ?_ ?_
        · intro x L W hall hS
          have ho2 := hS.2.2.2 (hall 9 (by show 9 < 11; decide))
          have hbW := HI.out.1.trans (hS.1.mono HI.out.1.size)
          have HZ4 := Lib.hid (HI.out.2.below hS.1)
          have HR4 := Lib.hid (HROW.out.below hS.1)
          obtain ⟨A2, c2, hv2, _, hrow⟩ := own_slice ho2
          have HC := Lib.hid (HLk.out A2 c2 W hbW hrow)
          have HB4 := Lib.hid hbW
          clear hS hall ho2 hbW hrow HI HLk HROW HZ3 HB3 hEp
          simp only [putsL]
          rw [hv2]
          clear hv2 hel
          generalize (E.eraseIdx k).length = le at *
          simp only [List.getElem_toArray, List.getElem_cons_zero, List.getElem_cons_succ, Act.put, Array.getD_eq_getD_getElem?, List.getElem?_toArray, List.getElem?_cons_zero, List.getElem?_cons_succ, Option.getD_some, List.setIfInBounds_toArray, List.set_cons_zero, List.set_cons_succ, Nat.reduceAdd]
          generalize listL js (tabB js.length (E.eraseIdx k)) p mm = RESk at *
          go_wp2_with fail
          refine HC.out.mono ?_
          rintro e w5 ⟨g5, rfl, hgs, hP, hb5⟩
          have HZ5 := Lib.hid (HZ4.out.below hb5)
          have HR5 := Lib.hid (HR4.out.below hb5)
          have hbb := HB4.out.trans (hb5.mono HB4.out.size)
          have HC2 := Lib.hid (HEk.out g5 w5 hbb hP)
          have HB5 := Lib.hid hbb
          clear hb5 hgs hP hbb HC HEk HZ4 HR4 HB4
          go_wp2_with fail
          refine HC2.out.mono ?_
          rintro e w6 ⟨rfl, hb6⟩
          have HZ6 := Lib.hid (HZ5.out.below hb6)
          have HR6 := Lib.hid (HR5.out.below hb6)
          have HB6 := Lib.hid (HB5.out.trans (hb6.mono HB5.out.size))
          clear hb6 HC2 HZ5 HR5 HB5
          generalize lenL js (E.eraseIdx k) p mm = lenk at *
          by_cases hh : len0 < lenk
          · rw [decide_eq_true hh] at HBk
            have HRK : Hid (lwoR js (mm : Int) E (natI p) = (E[k], true)) := by show _ = _; rw [HRR.out]; exact HHk.out HBk.out
            clear HRR HHk HBk HN HEND
            obtain ⟨pd, hA, _, hp0, hp1⟩ := HR6.out.pair hlt
            injection hA with hA
            subst hA
            generalize E[k] = pr at *
            obtain ⟨pa, pb⟩ := pr
            dsimp only at hp0 hp1
            have HRR := HRK
            have r0 : w6.cell? ⟨w.heap.size, 0, none⟩ = some (.int .i64 0) := ((HZ6.out).cell 0).trans rfl
            have r1 : w6.cell? ⟨w.heap.size, 1, none⟩ = some (.int .i64 0) := ((HZ6.out).cell 1).trans rfl
            have f0 := (HZ6.out).frozen 0
            have f1 := (HZ6.out).frozen 1
            go_wp2
            have zf := ((HZ6.out).set 0 (.int .i64 (pa))).set 1 (.int .i64 (pb))
            have hbe : Below w.heap.size w ((w6.setCell ⟨w.heap.size, 0, none⟩ (.int .i64 (pa))).setCell ⟨w.heap.size, 1, none⟩ (.int .i64 (pb))) := ((HB6.out).setCell (p := ⟨w.heap.size, 0, none⟩) (Nat.le_refl _) _).setCell (p := ⟨w.heap.size, 1, none⟩) (Nat.le_refl _) _
            generalize ((w6.setCell ⟨w.heap.size, 0, none⟩ (.int .i64 (pa))).setCell ⟨w.heap.size, 1, none⟩ (.int .i64 (pb))) = V at zf hbe ⊢
            have e1 : V.cell? ⟨w.heap.size, 0, none⟩ = some (.int .i64 (pa)) := (zf.cell 0).trans rfl
            have e2 : V.cell? ⟨w.heap.size, 1, none⟩ = some (.int .i64 (pb)) := (zf.cell 1).trans rfl
            refine bodyPost_ret (v := .tuple #[.agg #[.int .i64 (pa), .int .i64 (pb)], .bool true]) (by simp [results, Tryd.f20, e1, e2, go_sem]) rfl ⟨by rw [HRR.out], hbe⟩
          · rw [decide_eq_false hh] at HBk
            clear HRR HHk HEND
            go_wp2
            go_roundw
            case rel => exact ⟨k + 1, by omega, by go_num, fun i hi => (by rcases (by omega : i < k ∨ i = k) with h | rfl; exact HN.out i h; exact HBk.out), HB6.out, HZ6.out⟩
            case measure => simp [intOf]; omega
        · intro x L ac W iq op hLs hop hLi hLd hLn ⟨hS0, hSa, hSb, hSc⟩ hlow hdep
          have hq : iq < 11 := (Array.getElem?_eq_some_iff.1 hop).1
          have K : iq ≠ 0 → iq ≠ 4 → iq ≠ 9 → Below wr.heap.size wr W ∧ ((L.setIfInBounds iq true).getD 0 true = true → (L.setIfInBounds iq true).getD 4 true = false → W.ownsRow wr.heap.size 37 2 (.slice (some ⟨x.g0, 0, none⟩) 0 0) ([] : List Pr).length (pc ([] : List Pr))) ∧ ((L.setIfInBounds iq true).getD 4 true = true → (L.setIfInBounds iq true).getD 9 true = false → W.ownsRow wr.heap.size 37 2 x.v1 (E.take k).length (pc (E.take k))) ∧ ((L.setIfInBounds iq true).getD 9 true = true → W.ownsRow wr.heap.size 37 2 x.v2 (E.eraseIdx k).length (pc (E.eraseIdx k))) := fun h3 h5 h6 => by
            rw [listed_ne h3, listed_ne h5, listed_ne h6]
            exact ⟨hS0, hSa, hSb, hSc⟩
          have val_eq : ∀ (q : Nat) (y : Wq), (∀ j, j < 11 → j ≠ q → L.getD j true = true → (#[.slice (some ⟨y.g0, 0, none⟩) 0 0, .slice (some ad) E.length d, .int .i64 (k : Int), .slice (some ad) k d, y.v1, .slice (some ad) E.length d, .int .i64 (k : Int), .int .i64 ((k : Int) + 1), .slice (some (tailP ad (k + 1) d)) (E.length - (k + 1)) (d - (k + 1)), y.v2, y.v2] : Array Value).getD j undef = (#[.slice (some ⟨x.g0, 0, none⟩) 0 0, .slice (some ad) E.length d, .int .i64 (k : Int), .slice (some ad) k d, x.v1, .slice (some ad) E.length d, .int .i64 (k : Int), .int .i64 ((k : Int) + 1), .slice (some (tailP ad (k + 1) d)) (E.length - (k + 1)) (d - (k + 1)), x.v2, x.v2] : Array Value).getD j undef) → L.getD q true = false → ∀ j, L.getD j true = true → (#[.slice (some ⟨y.g0, 0, none⟩) 0 0, .slice (some ad) E.length d, .int .i64 (k : Int), .slice (some ad) k d, y.v1, .slice (some ad) E.length d, .int .i64 (k : Int), .int .i64 ((k : Int) + 1), .slice (some (tailP ad (k + 1) d)) (E.length - (k + 1)) (d - (k + 1)), y.v2, y.v2] : Array Value).getD j undef = (#[.slice (some ⟨x.g0, 0, none⟩) 0 0, .slice (some ad) E.length d, .int .i64 (k : Int), .slice (some ad) k d, x.v1, .slice (some ad) E.length d, .int .i64 (k : Int), .int .i64 ((k : Int) + 1), .slice (some (tailP ad (k + 1) d)) (E.length - (k + 1)) (d - (k + 1)), x.v2, x.v2] : Array Value).getD j undef := fun q y hag hi j hj => by
            by_cases h15 : j < 11
            · exact hag j h15 (fun e => by subst e; rw [hi] at hj; cases hj) hj
            · have h1 : 11 ≤ j := by omega
              rw [Array.getD_eq_getD_getElem?, Array.getD_eq_getD_getElem?, Array.getElem?_eq_none (by simpa using h1), Array.getElem?_eq_none (by simpa using h1)]
          rcases (by omega : iq = 0 ∨ iq = 1 ∨ iq = 2 ∨ iq = 3 ∨ iq = 4 ∨ iq = 5 ∨ iq = 6 ∨ iq = 7 ∨ iq = 8 ∨ iq = 9 ∨ iq = 10) with rfl | rfl | rfl | rfl | rfl | rfl | rfl | rfl | rfl | rfl | rfl
          · obtain rfl := Option.some.inj hop
            have hb2 := (Below.refl W.heap.size W).alloc (Nat.le_refl _) (.cells #[] 37)
            have hN4 := hLn 4 (by kernel_rfl)
            refine ⟨wanted_free rfl, .inl ⟨{ x with g0 := W.heap.size }, W.alloc (.cells #[] 37), (val_eq 0 { x with g0 := W.heap.size } (fun j hj h1 hl => by rcases (by omega : j = 1 ∨ j = 2 ∨ j = 3 ∨ j = 4 ∨ j = 5 ∨ j = 6 ∨ j = 7 ∨ j = 8 ∨ j = 9 ∨ j = 10) with rfl | rfl | rfl | rfl | rfl | rfl | rfl | rfl | rfl | rfl <;> first | rfl | (exact absurd hl (by first | (rw [hLn 4 (by kernel_rfl)]; decide) | (rw [hN10]; decide)))) hLi), by simp [execOp, Act.eval, go_sem], hS0.alloc hS0.size _, fun _ _ => ?_, ?_, ?_⟩⟩
            · exact (BlockIs.new W 37 #[]).own (n := 0) (c := 0) (size := 2) hS0.size rfl (Nat.le_refl _) (by unfold maxLen; omega) (Nat.zero_le _)
            · rw [listed_ne (by decide), hN4]; exact fun h => by cases h
            · rw [listed_ne (by decide)]; exact fun h => own_blw (hSc h) hb2
          · obtain rfl := Option.some.inj hop
            have e2 : ac.tmps[2]?.getD undef = .slice (some ad) E.length d := (Array.getD_eq_getD_getElem? ..).symm.trans (hlow 2 (by kernel_rfl))
            exact ⟨wanted_free rfl, .inl ⟨x, W, fun _ _ => rfl, by simp [execOp, Act.eval, e2, go_sem], K (by decide) (by decide) (by decide)⟩⟩
          · obtain rfl := Option.some.inj hop
            have e11 : ac.tmps[11]?.getD undef = .int .i64 (k : Int) := (Array.getD_eq_getD_getElem? ..).symm.trans (hlow 11 (by kernel_rfl))
            exact ⟨wanted_free rfl, .inl ⟨x, W, fun _ _ => rfl, by simp [execOp, Act.eval, e11, go_sem], K (by decide) (by decide) (by decide)⟩⟩
          · obtain rfl := Option.some.inj hop
            have e34 : ac.tmps[34]?.getD undef = .slice (some ad) E.length d := (Array.getD_eq_getD_getElem? ..).symm.trans (hdep 1 _ 34 (by kernel_rfl) rfl rfl)
            have e35 : ac.tmps[35]?.getD undef = .int .i64 (k : Int) := (Array.getD_eq_getD_getElem? ..).symm.trans (hdep 2 _ 35 (by kernel_rfl) rfl rfl)
            exact ⟨wanted_free rfl, .inl ⟨x, W, fun _ _ => rfl, exec_slice rfl (by simp only [Act.eval, Option.map_some, Option.map_none, Array.getD_eq_getD_getElem?, e34, e35]; exact slice_hP ad _ d k W (by omega)), K (by decide) (by decide) (by decide)⟩⟩
          · obtain rfl := Option.some.inj hop
            have e33 : ac.tmps[33]?.getD undef = .slice (some ⟨x.g0, 0, none⟩) 0 0 := (Array.getD_eq_getD_getElem? ..).symm.trans (hdep 0 _ 33 (by kernel_rfl) rfl rfl)
            have e36 : ac.tmps[36]?.getD undef = .slice (some ad) k d := (Array.getD_eq_getD_getElem? ..).symm.trans (hdep 3 _ 36 (by kernel_rfl) rfl rfl)
            have hO := hSa (hLd 0 (by kernel_rfl)) hLi
            have hN9 := hLn 9 (by kernel_rfl)
            have hap := app_ownP (ys := E.take k) (some ad) d hO (row_takeP (HROW.out.below hS0) k) (by simp; omega) hS0.size
            rw [htl, List.nil_append] at hap
            obtain ⟨v1, w3, hrun, ho3, hb3⟩ := hap
            refine ⟨wanted_free rfl, .inl ⟨{ x with v1 := v1 }, w3, (val_eq 4 { x with v1 := v1 } (fun j hj h1 hl => by rcases (by omega : j = 0 ∨ j = 1 ∨ j = 2 ∨ j = 3 ∨ j = 5 ∨ j = 6 ∨ j = 7 ∨ j = 8 ∨ j = 9 ∨ j = 10) with rfl | rfl | rfl | rfl | rfl | rfl | rfl | rfl | rfl | rfl <;> first | rfl | (exact absurd hl (by first | (rw [hLn 9 (by kernel_rfl)]; decide) | (rw [hN10]; decide)))) hLi), exec_append rfl (by simp [Act.eval, e33]) (by simp [Act.eval, e36]) hrun, hb3 wr _ (Nat.le_refl _) hS0, ?_, fun _ _ => ho3, ?_⟩⟩
            · intro _ h; rw [listed_at (by rw [hLs]; decide)] at h; cases h
            · rw [listed_ne (by decide), hN9]; exact fun h => by cases h
          · obtain rfl := Option.some.inj hop
            have e2 : ac.tmps[2]?.getD undef = .slice (some ad) E.length d := (Array.getD_eq_getD_getElem? ..).symm.trans (hlow 2 (by kernel_rfl))
            exact ⟨wanted_free rfl, .inl ⟨x, W, fun _ _ => rfl, by simp [execOp, Act.eval, e2, go_sem], K (by decide) (by decide) (by decide)⟩⟩
          · obtain rfl := Option.some.inj hop
            have e11 : ac.tmps[11]?.getD undef = .int .i64 (k : Int) := (Array.getD_eq_getD_getElem? ..).symm.trans (hlow 11 (by kernel_rfl))
            exact ⟨wanted_free rfl, .inl ⟨x, W, fun _ _ => rfl, by simp [execOp, Act.eval, e11, go_sem], K (by decide) (by decide) (by decide)⟩⟩
          · obtain rfl := Option.some.inj hop
            have e39 : ac.tmps[39]?.getD undef = .int .i64 (k : Int) := (Array.getD_eq_getD_getElem? ..).symm.trans (hdep 6 _ 39 (by kernel_rfl) rfl rfl)
            exact ⟨wanted_free rfl, .inl ⟨x, W, fun _ _ => rfl, by simp [execOp, Act.eval, e39, hkw, go_sem], K (by decide) (by decide) (by decide)⟩⟩
          · obtain rfl := Option.some.inj hop
            have e38 : ac.tmps[38]?.getD undef = .slice (some ad) E.length d := (Array.getD_eq_getD_getElem? ..).symm.trans (hdep 5 _ 38 (by kernel_rfl) rfl rfl)
            have e40 : ac.tmps[40]?.getD undef = .int .i64 ((k : Int) + 1) := (Array.getD_eq_getD_getElem? ..).symm.trans (hdep 7 _ 40 (by kernel_rfl) rfl rfl)
            exact ⟨wanted_free rfl, .inl ⟨x, W, fun _ _ => rfl, exec_slice rfl (by simp only [Act.eval, Option.map_some, Option.map_none, Array.getD_eq_getD_getElem?, e38, e40]; exact slice_lP ad _ d (k + 1) W (by omega)), K (by decide) (by decide) (by decide)⟩⟩
          · obtain rfl := Option.some.inj hop
            have e37 : ac.tmps[37]?.getD undef = x.v1 := (Array.getD_eq_getD_getElem? ..).symm.trans (hdep 4 _ 37 (by kernel_rfl) rfl rfl)
            have e41 : ac.tmps[41]?.getD undef = .slice (some (tailP ad (k + 1) d)) (E.length - (k + 1)) (d - (k + 1)) := (Array.getD_eq_getD_getElem? ..).symm.trans (hdep 8 _ 41 (by kernel_rfl) rfl rfl)
            have hO := hSb (hLd 4 (by kernel_rfl)) hLi
            have h4t := hLd 4 (by kernel_rfl)
            have hN10 := hLn 10 (by kernel_rfl)
            have hap := app_ownP (ys := E.drop (k + 1)) (some (tailP ad (k + 1) d)) (d - (k + 1)) hO (row_tailP (HROW.out.below hS0) (by omega) hcap) (by omega) hS0.size
            rw [hdl, hEp] at hap
            obtain ⟨v2, w3, hrun, ho3, hb3⟩ := hap
            refine ⟨wanted_free rfl, .inl ⟨{ x with v2 := v2 }, w3, (val_eq 9 { x with v2 := v2 } (fun j hj h1 hl => by rcases (by omega : j = 0 ∨ j = 1 ∨ j = 2 ∨ j = 3 ∨ j = 4 ∨ j = 5 ∨ j = 6 ∨ j = 7 ∨ j = 8 ∨ j = 10) with rfl | rfl | rfl | rfl | rfl | rfl | rfl | rfl | rfl | rfl <;> first | rfl | (exact absurd hl (by first | (rw [hLn 10 (by kernel_rfl)]; decide) | (rw [hN10]; decide)))) hLi), exec_append rfl (by simp [Act.eval, e37]) (by simp [Act.eval, e41]) hrun, hb3 wr _ (Nat.le_refl _) hS0, ?_, ?_, fun _ => ho3⟩⟩
            · rw [listed_ne (i := 9) (j := 4) (by decide), h4t]; exact fun _ h => by cases h
            · intro _ h; rw [listed_at (by rw [hLs]; decide)] at h; cases h
          · obtain rfl := Option.some.inj hop
            have e42 : ac.tmps[42]?.getD undef = x.v2 := (Array.getD_eq_getD_getElem? ..).symm.trans (hdep 9 _ 42 (by kernel_rfl) rfl rfl)
            exact ⟨wanted_free rfl, .inl ⟨x, W, fun _ _ => rfl, by simp [execOp, Act.eval, e42, go_sem], K (by decide) (by decide) (by decide)⟩⟩
      · obtain rfl : k = E.length := by omega
        rw [HEND.out HN.out] at HRR
        have hk2 : ¬ ((E.length : Int) < E.length) := by omega
        have HZ9 := Lib.hid HI.out.2
        have HB9 := Lib.hid HI.out.1
        clear HLI HLE HI HN HEND HHIT HER HVK HBD HZ3 HB3
        have r0 : wr.cell? ⟨w.heap.size, 0, none⟩ = some (.int .i64 0) := ((HZ9.out).cell 0).trans rfl
        have r1 : wr.cell? ⟨w.heap.size, 1, none⟩ = some (.int .i64 0) := ((HZ9.out).cell 1).trans rfl
        have f0 := (HZ9.out).frozen 0
        have f1 := (HZ9.out).frozen 1
        go_wp2
        have zf := ((HZ9.out).set 0 (.int .i64 (0))).set 1 (.int .i64 (0))
        have hbe : Below w.heap.size w ((wr.setCell ⟨w.heap.size, 0, none⟩ (.int .i64 (0))).setCell ⟨w.heap.size, 1, none⟩ (.int .i64 (0))) := ((HB9.out).setCell (p := ⟨w.heap.size, 0, none⟩) (Nat.le_refl _) _).setCell (p := ⟨w.heap.size, 1, none⟩) (Nat.le_refl _) _
        generalize ((wr.setCell ⟨w.heap.size, 0, none⟩ (.int .i64 (0))).setCell ⟨w.heap.size, 1, none⟩ (.int .i64 (0))) = V at zf hbe ⊢
        have e1 : V.cell? ⟨w.heap.size, 0, none⟩ = some (.int .i64 (0)) := (zf.cell 0).trans rfl
        have e2 : V.cell? ⟨w.heap.size, 1, none⟩ = some (.int .i64 (0)) := (zf.cell 1).trans rfl
        refine bodyPost_ret (v := .tuple #[.agg #[.int .i64 (0), .int .i64 (0)], .bool false]) (by simp [results, Tryd.f20, e1, e2, go_sem]) rfl ⟨by rw [HRR.out]; rfl, hbe⟩
end
end Go.Proofs.YtjemjdlaoebffaaDoor

end
section
namespace Go.Proofs.YtjemjdlaoebffaaDoor
set_option linter.unusedSimpArgs false
set_option linter.unusedVariables false
open Go.RowKit
structure Wr where
  g48 : Nat
  v49 : Value
  g15 : Nat
theorem exec_store10W {o : Oper} {ev : Operand → Value} {X Y : Operand} {g : Nat} {cs ds : Array Value} {w : World} (ho : o.op = .store 83 X Y) (hx : ev X = .pointer (some ⟨g, 0, none⟩)) (hy : ev Y = .agg ds) (h : BlockIs w g 83 cs) (hc : cs.size = 10) (hs : ds.size = 10) (h1 : ds.all (·.oneCell') = true) :
    (execOp ev o).run Tryd.prog w = .ok .skip (w.setRow g ds) := by
  have hst := run_storeVar_row (P := Tryd.prog) w g 83 83 cs ds h (by rw [hs]; kernel_rfl) (by rw [hc, hs]) h1
  unfold execOp
  simp only [ho, hx, hy, Instr.storeAt, Instr.sureAddr, Sem.run_bind, Sem.run_pure, Result.andThen_ok, hst]
section
variable (A C D : Option Addr) (c d b : Nat) (js : List J) (m : Int) (E : List Pr) (o : List Int) (w : World) (hr : Row w A (jc js)) (hq : Row w C (pc E)) (ho : Row w D (ic o)) (hn : js.length ≤ 10000000) (hl : E.length ≤ 10000000) (hm : o.length ≤ 10000000)
include hr hq ho hn hl hm
set_option maxRecDepth 100000 in
set_option maxHeartbeats 4000000 in
theorem impl_LongerWithout (hcap : E.length ≤ d) (hT : TzTab w) : Calls Tryd.prog 22 #[.slice A js.length c, .int .i64 m, .slice C E.length d, .slice D o.length b] w (RetOB w (lwoR js m E o)) := by
  have HRR : Hid (lwoR js m E o = if forB js m E o then lwoF js E (natsOf o) m.toNat else ((0, 0), false)) := rfl
  have b0 := (Below.refl w.heap.size w).alloc (Nat.le_refl _) (.cells #[.int .i64 0, .int .i64 0] 37)
  have HZ := Lib.hid (BlockIs.new w 37 #[.int .i64 0, .int .i64 0])
  have H := Lib.hid (workloadFor_any A C D c d b js m E o _ (hr.below b0) (hq.below b0) (ho.below b0) hn hl hm (hT.below b0))
  have HB0 := Lib.hid b0
  have HR := Lib.hid hr
  have HQ := Lib.hid hq
  have HO := Lib.hid ho
  have HT := Lib.hid hT
  clear hr hq ho hT b0
  cases hg : forB js m E o
  · rw [hg] at HRR H
    clear hg
    go_enter Tryd.func22, Tryd.ntmps22
    go_wp2_with fail
    refine H.out.mono ?_
    rintro e w1 ⟨hb1, AJ, l, k, nn, B, rfl, hun⟩
    have hbB := HB0.out.trans (hb1.mono HB0.out.size)
    have hbC := (Below.refl w1.heap.size w1).alloc (Nat.le_refl _) (.cells #[.slice AJ l k, .int .i64 (nn : Int), .int .u64 (B 0 : Int), .int .u64 (B 1 : Int), .int .u64 (B 2 : Int), .int .u64 (B 3 : Int), .int .u64 (B 4 : Int), .int .u64 (B 5 : Int), .int .u64 (B 6 : Int), .int .u64 (B 7 : Int)] 83)
    have HZ1 := Lib.hid ((HZ.out.below hb1).below hbC)
    have HBF := Lib.hid (hbB.trans (hbC.mono hbB.size))
    clear hb1 hun hbB hbC H
    unfold wlC
    have r0 : (w1.alloc (.cells #[.slice AJ l k, .int .i64 (nn : Int), .int .u64 (B 0 : Int), .int .u64 (B 1 : Int), .int .u64 (B 2 : Int), .int .u64 (B 3 : Int), .int .u64 (B 4 : Int), .int .u64 (B 5 : Int), .int .u64 (B 6 : Int), .int .u64 (B 7 : Int)] 83)).cell? ⟨w.heap.size, 0, none⟩ = some (.int .i64 0) := ((HZ1.out).cell 0).trans rfl
    have r1 : (w1.alloc (.cells #[.slice AJ l k, .int .i64 (nn : Int), .int .u64 (B 0 : Int), .int .u64 (B 1 : Int), .int .u64 (B 2 : Int), .int .u64 (B 3 : Int), .int .u64 (B 4 : Int), .int .u64 (B 5 : Int), .int .u64 (B 6 : Int), .int .u64 (B 7 : Int)] 83)).cell? ⟨w.heap.size, 1, none⟩ = some (.int .i64 0) := ((HZ1.out).cell 1).trans rfl
    have f0 := (HZ1.out).frozen 0
    have f1 := (HZ1.out).frozen 1
    go_wp2
    have zf := ((HZ1.out).set 0 (.int .i64 (0))).set 1 (.int .i64 (0))
    have hbe : Below w.heap.size w (((w1.alloc (.cells #[.slice AJ l k, .int .i64 (nn : Int), .int .u64 (B 0 : Int), .int .u64 (B 1 : Int), .int .u64 (B 2 : Int), .int .u64 (B 3 : Int), .int .u64 (B 4 : Int), .int .u64 (B 5 : Int), .int .u64 (B 6 : Int), .int .u64 (B 7 : Int)] 83)).setCell ⟨w.heap.size, 0, none⟩ (.int .i64 (0))).setCell ⟨w.heap.size, 1, none⟩ (.int .i64 (0))) := ((HBF.out).setCell (p := ⟨w.heap.size, 0, none⟩) (Nat.le_refl _) _).setCell (p := ⟨w.heap.size, 1, none⟩) (Nat.le_refl _) _
    generalize (((w1.alloc (.cells #[.slice AJ l k, .int .i64 (nn : Int), .int .u64 (B 0 : Int), .int .u64 (B 1 : Int), .int .u64 (B 2 : Int), .int .u64 (B 3 : Int), .int .u64 (B 4 : Int), .int .u64 (B 5 : Int), .int .u64 (B 6 : Int), .int .u64 (B 7 : Int)] 83)).setCell ⟨w.heap.size, 0, none⟩ (.int .i64 (0))).setCell ⟨w.heap.size, 1, none⟩ (.int .i64 (0))) = V at zf hbe ⊢
    have e1 : V.cell? ⟨w.heap.size, 0, none⟩ = some (.int .i64 (0)) := (zf.cell 0).trans rfl
    have e2 : V.cell? ⟨w.heap.size, 1, none⟩ = some (.int .i64 (0)) := (zf.cell 1).trans rfl
    refine bodyPost_ret (v := .tuple #[.agg #[.int .i64 (0), .int .i64 (0)], .bool false]) (by simp [results, Tryd.f22, e1, e2, go_sem]) rfl ⟨by rw [HRR.out]; rfl, hbe⟩
  · obtain ⟨hgo, p, mm, rfl, hnp, hp, rfl, hmt, hm1, hm4⟩ := for_parts hg
    obtain ⟨hok, h8, hirr, hE, _, hpc, hpl⟩ := good_parts hgo
    have h28 : E.length ≤ 28 := (pairs_out (Bool.and_eq_true _ _ ▸ hpc : pairsB _ _ = true ∧ _).1).2.2.1
    rw [hnp, hmt, hg] at HRR
    have hnl : (natI p).length = p.length := by simp
    rw [hg, hnl] at H
    have hWB : ∀ k, k < E.length → wlB js (E.eraseIdx k) = true := fun k hk => by
      obtain ⟨_, _, _, _, h1, h2, _⟩ := good_parts (good_erase hk hgo)
      unfold wlB; rw [h1, h2]; rfl
    have HIR := Lib.hid (fun (k : Nat) (hk : k < E.length) => (good_parts (good_erase hk hgo)).2.2.1)
    have HLE := Lib.hid (fun (F : List Pr) (hi : irrB js.length F js.length = true) W (hb : Below w.heap.size w W) => listLength_any A D c b js F mm p W (HR.out.below hb) (HO.out.below hb) hok h8 hi ⟨hm1, hm4⟩ hp)
    have HL1 := Lib.hid (HLE.out E hirr)
    have HWW := Lib.hid (fun (k : Nat) (hk : k < E.length) X cx W (hb : Below w.heap.size w W) (hx : Row W X (pc (E.eraseIdx k))) => (workloadOf_any A X c cx js (E.eraseIdx k) W (HR.out.below hb) hx hn (by have := List.length_eraseIdx_of_lt hk; omega) (HT.out.below hb)).mono fun e w' (h : WlOut W A c js (E.eraseIdx k) (wlB js (E.eraseIdx k)) e w') => (show e = .returned (.tuple #[.agg (wlC (.slice A js.length c) (js.length : Int) (befN js.length (tabB js.length (E.eraseIdx k)))), .bool true]) ∧ Below W.heap.size W w' from by
      obtain ⟨h1, ⟨_, _, h2⟩ | ⟨h2, _⟩⟩ := h
      · exact ⟨h2, h1⟩
      · rw [hWB k hk] at h2; cases h2))
    have HEND := Lib.hid (@lwo_no js E p mm)
    have HHIT := Lib.hid (fun k (hk : k < E.length) => @lwo_yes js E p mm k hk)
    have HBD : Hid (∀ k, lwoB js E p mm k = decide (lenL js E p mm < lenL js (E.eraseIdx k) p mm)) := fun _ => rfl
    generalize lenL js E p mm = len0 at *
    clear hg hgo hok hirr hE hp hnp hmt hnl hpc hWB hpl
    go_enter Tryd.func22, Tryd.ntmps22
    go_wp2_with fail
    refine H.out.mono ?_
    rintro e w1 ⟨hb1, AJ, l, k, nn, B, rfl, hok2⟩
    rw [(hok2 rfl).2]
    obtain ⟨BB, hBB⟩ : ∃ BB, befN js.length (tabB js.length E) = BB := ⟨_, rfl⟩
    rw [hBB] at HL1 ⊢
    have hbB := HB0.out.trans (hb1.mono HB0.out.size)
    have hbC := (Below.refl w1.heap.size w1).alloc (Nat.le_refl _) (.cells #[.slice A js.length c, .int .i64 (js.length : Int), .int .u64 (BB 0 : Int), .int .u64 (BB 1 : Int), .int .u64 (BB 2 : Int), .int .u64 (BB 3 : Int), .int .u64 (BB 4 : Int), .int .u64 (BB 5 : Int), .int .u64 (BB 6 : Int), .int .u64 (BB 7 : Int)] 83)
    have HZ1 := Lib.hid ((HZ.out.below hb1).below hbC)
    have hbD := hbB.trans (hbC.mono hbB.size)
    have HC1 := Lib.hid (HL1.out _ hbD)
    have HB1 := Lib.hid hbD
    clear hb1 hok2 hBB hbB hbC hbD H HL1 HB0 HZ
    unfold wlC at HC1 ⊢
    go_wp2_with fail
    refine HC1.out.mono ?_
    rintro e w3 ⟨rfl, hb3⟩
    have HZ3 := Lib.hid (HZ1.out.below hb3)
    have HB3 := Lib.hid (HB1.out.trans (hb3.mono HB1.out.size))
    clear hb3 HC1 HB1 HZ1
    go_wp2
    go_loopw [34] (fun iv wr => ∃ k : Nat, k ≤ E.length ∧ iv = .int .i64 (k : Int) ∧ Hid (∀ i, i < k → lwoB js E p mm i = false) ∧ Hid (BlockIs wr w.heap.size 37 #[.int .i64 0, .int .i64 0] ∧ Below w.heap.size w wr)) (fun iv _ => E.length - (intOf iv).toNat)
    case atStart => exact ⟨0, Nat.zero_le _, rfl, fun _ h => absurd h (Nat.not_lt_zero _), HZ3.out, HB3.out⟩
    case round =>
      obtain ⟨k, hk, rfl, HN, HI⟩ := hrel
      by_cases hlt : k < E.length
      · have hk1 : (k : Int) < E.length := by omega
        have hk0 : (0 : Int) ≤ k := by omega
        have hkw : IntKind.i64.wrap ((k : Int) + 1) = (k : Int) + 1 := IntWalk.i64_in _ (by omega)
        obtain ⟨ad, hC, hadb, hp0, hp1⟩ := (HQ.out.below HI.out.2).pair hlt
        subst hC
        have hel : (E.eraseIdx k).length = E.length - 1 := List.length_eraseIdx_of_lt hlt
        have HLk := Lib.hid (HLE.out (E.eraseIdx k) (HIR.out k hlt))
        have HBk := Lib.hid (HBD.out k)
        have HHk := Lib.hid (fun h => HHIT.out k hlt h HN.out)
        have htl : (E.take k).length = k := by rw [List.length_take]; omega
        have hdl : (E.drop (k + 1)).length = E.length - (k + 1) := List.length_drop
        have hEp := erase_parts E k
        have hWk := HWW.out k hlt
        obtain ⟨BK, hBK⟩ : ∃ BK, befN js.length (tabB js.length (E.eraseIdx k)) = BK := ⟨_, rfl⟩
        rw [hBK] at hWk HLk
        have hb14 := (Below.refl wr.heap.size wr).alloc (Nat.le_refl _) (.cells #[.int .i64 E[k].1, .int .i64 E[k].2] 37)
        have H14 := Lib.hid (And.intro (BlockIs.new wr 37 #[.int .i64 E[k].1, .int .i64 E[k].2]) (And.intro HI.out.2 hb14))
        have hbw0 := HI.out.2.trans (hb14.mono HI.out.2.size)
        have HROW : Hid (Row (wr.alloc (.cells #[.int .i64 E[k].1, .int .i64 E[k].2] 37)) (some ad) (pc E)) := HQ.out.below hbw0
        have HWO : Hid (∀ X cx W, Below (wr.alloc (.cells #[.int .i64 E[k].1, .int .i64 E[k].2] 37)).heap.size (wr.alloc (.cells #[.int .i64 E[k].1, .int .i64 E[k].2] 37)) W → Row W X (pc (E.eraseIdx k)) → Calls Tryd.prog 53 #[.slice A js.length c, .slice X (E.eraseIdx k).length cx] W fun e w' => e = .returned (.tuple #[.agg (wlC (.slice A js.length c) (js.length : Int) BK), .bool true]) ∧ Below W.heap.size W w') := fun X cx W hb hx => hWk X cx W (hbw0.trans (hb.mono hbw0.size)) hx
        clear hBK hWk hb14 hbw0 HLE HWW HBD HHIT HIR HQ HZ3 HB3 hadb
        obtain ⟨W0, hW0⟩ : ∃ W0, W0 = (wr.alloc (.cells #[.int .i64 E[k].1, .int .i64 E[k].2] 37)) := ⟨_, rfl⟩
        rw [← hW0] at HROW HWO H14
        go_wp2
        rw [← hW0]
        clear hW0 hp0 hp1
        refine wp_region_detP (γ := Wr) (by kernel_rfl) (fun x L W => Below W0.heap.size W0 W ∧ (L.getD 8 true = true → L.getD 9 true = false → x.g48 < W.heap.size ∧ W.cell? ⟨x.g48, 0, none⟩ = some (.slice (some ad) k d) ∧ W.cell? ⟨x.g48, 1, none⟩ = some (.slice (some (tailP ad (k + 1) d)) (E.length - (k + 1)) (d - (k + 1)))) ∧ (L.getD 9 true = true → L.getD 10 true = false → ∃ A2 c2, x.v49 = .slice A2 (E.eraseIdx k).length c2 ∧ Row W A2 (pc (E.eraseIdx k))) ∧ (L.getD 10 true = true → L.getD 9 true = true) ∧ (L.getD 11 true = true → L.getD 9 true = true ∧ L.getD 10 true = true) ∧ (L.getD 12 true = true → L.getD 9 true = true ∧ L.getD 10 true = true) ∧ (L.getD 14 true = true → W0.heap.size ≤ x.g15) ∧ (L.getD 14 true = true → L.getD 15 true = false → BlockIs W x.g15 83 wlZ) ∧ (L.getD 15 true = true → BlockIs W x.g15 83 (wlC (.slice A js.length c) (js.length : Int) BK))) (fun x kk => (#[.slice A js.length c, .slice (some ad) E.length d, .int .i64 (k : Int), .slice (some ad) k d, .slice (some ad) E.length d, .int .i64 (k : Int), .int .i64 ((k : Int) + 1), .slice (some (tailP ad (k + 1) d)) (E.length - (k + 1)) (d - (k + 1)), .slice (some ⟨x.g48, 0, none⟩) 2 2, x.v49, .tuple #[.agg (wlC (.slice A js.length c) (js.length : Int) BK), .bool true], .tuple #[.agg (wlC (.slice A js.length c) (js.length : Int) BK), .bool true], .agg (wlC (.slice A js.length c) (js.length : Int) BK), .bool true, .pointer (some ⟨x.g15, 0, none⟩), undef, .bool true] : Array Value).getD kk undef) ⟨0, undef, 0⟩ (by kernel_rfl) (by kernel_rfl) ?_ ?_ ?_
        · have hR : ∀ j, j < 17 → (Array.replicate 17 false).getD j true = false := fun j hj => rep_getD 17 j hj
          exact ⟨(Below.refl _ _).drew, fun h => absurd (h.symm.trans (hR 8 (by decide))) (by decide), fun h => absurd (h.symm.trans (hR 9 (by decide))) (by decide), fun h => absurd (h.symm.trans (hR 10 (by decide))) (by decide), fun h => absurd (h.symm.trans (hR 11 (by decide))) (by decide), fun h => absurd (h.symm.trans (hR 12 (by decide))) (by decide), fun h => absurd (h.symm.trans (hR 14 (by decide))) (by decide), fun h => absurd (h.symm.trans (hR 14 (by decide))) (by decide), fun h => absurd (h.symm.trans (hR 15 (by decide))) (by decide)⟩
        · intro x L W hall hS
          have hY9 := hS.2.2.2.2.2.2.2.2 (hall 15 (by show 15 < 17; decide))
          have hbW := HI.out.2.trans ((H14.out.2.2.trans (hS.1.mono H14.out.2.2.size)).mono HI.out.2.size)
          have HZ4 := Lib.hid ((HI.out.1.below H14.out.2.2).below hS.1)
          have H15 := Lib.hid (H14.out.1.below hS.1)
          have HB4 := Lib.hid hbW
          have HC := Lib.hid (HLk.out W hbW)
          clear hS hall hbW HI HROW HWO HLk hEp H14
          unfold wlC at hY9 HC
          have c0 := hY9.cell 0
          have c1 := hY9.cell 1
          have c2 := hY9.cell 2
          have c3 := hY9.cell 3
          have c4 := hY9.cell 4
          have c5 := hY9.cell 5
          have c6 := hY9.cell 6
          have c7 := hY9.cell 7
          have c8 := hY9.cell 8
          have c9 := hY9.cell 9
          simp only [List.getElem?_toArray, List.getElem?_cons_zero, List.getElem?_cons_succ] at c0 c1 c2 c3 c4 c5 c6 c7 c8 c9
          simp only [putsL]
          unfold wlC
          simp only [List.getElem_toArray, List.getElem_cons_zero, List.getElem_cons_succ, Act.put, Array.getD_eq_getD_getElem?, List.getElem?_toArray, List.getElem?_cons_zero, List.getElem?_cons_succ, Option.getD_some, List.setIfInBounds_toArray, List.set_cons_zero, List.set_cons_succ, Nat.reduceAdd]
          generalize lenL js (E.eraseIdx k) p mm = lenk at *
          clear hel
          go_wp2_with fail
          refine HC.out.mono ?_
          rintro e w6 ⟨rfl, hb6⟩
          have HZ6 := Lib.hid (HZ4.out.below hb6)
          have H16 := Lib.hid (H15.out.below hb6)
          have HB6 := Lib.hid (HB4.out.trans (hb6.mono HB4.out.size))
          clear hb6 HC HZ4 H15 HB4 hY9 c0 c1 c2 c3 c4 c5 c6 c7 c8 c9
          by_cases hh : len0 < lenk
          · rw [decide_eq_true hh] at HBk
            have HRK : Hid (lwoR js (mm : Int) E (natI p) = (E[k], true)) := by show _ = _; rw [HRR.out]; exact HHk.out HBk.out
            clear HRR HHk HBk HN HEND
            have HRR := HRK
            generalize E[k] = pr at *
            obtain ⟨pa, pb⟩ := pr
            have b0 := H16.out.cell 0
            have b1 := H16.out.cell 1
            simp only [List.getElem?_toArray, List.getElem?_cons_zero, List.getElem?_cons_succ] at b0 b1
            have r0 : w6.cell? ⟨w.heap.size, 0, none⟩ = some (.int .i64 0) := ((HZ6.out).cell 0).trans rfl
            have r1 : w6.cell? ⟨w.heap.size, 1, none⟩ = some (.int .i64 0) := ((HZ6.out).cell 1).trans rfl
            have f0 := (HZ6.out).frozen 0
            have f1 := (HZ6.out).frozen 1
            go_wp2
            have zf := ((HZ6.out).set 0 (.int .i64 (pa))).set 1 (.int .i64 (pb))
            have hbe : Below w.heap.size w ((w6.setCell ⟨w.heap.size, 0, none⟩ (.int .i64 (pa))).setCell ⟨w.heap.size, 1, none⟩ (.int .i64 (pb))) := ((HB6.out).setCell (p := ⟨w.heap.size, 0, none⟩) (Nat.le_refl _) _).setCell (p := ⟨w.heap.size, 1, none⟩) (Nat.le_refl _) _
            generalize ((w6.setCell ⟨w.heap.size, 0, none⟩ (.int .i64 (pa))).setCell ⟨w.heap.size, 1, none⟩ (.int .i64 (pb))) = V at zf hbe ⊢
            have e1 : V.cell? ⟨w.heap.size, 0, none⟩ = some (.int .i64 (pa)) := (zf.cell 0).trans rfl
            have e2 : V.cell? ⟨w.heap.size, 1, none⟩ = some (.int .i64 (pb)) := (zf.cell 1).trans rfl
            refine bodyPost_ret (v := .tuple #[.agg #[.int .i64 (pa), .int .i64 (pb)], .bool true]) (by simp [results, Tryd.f22, e1, e2, go_sem]) rfl ⟨by rw [HRR.out], hbe⟩
          · rw [decide_eq_false hh] at HBk
            clear HRR HHk HEND
            go_wp2
            go_roundw
            case rel => exact ⟨k + 1, by omega, by go_num, fun i hi => (by rcases (by omega : i < k ∨ i = k) with h | rfl; exact HN.out i h; exact HBk.out), HZ6.out, HB6.out⟩
            case measure => simp [intOf]; omega
        · intro x L ac W iq op hLs hop hLi hLd hLn ⟨hS0, hS8, hS9, hI10, hI11, hI12, hG, hZ, hY⟩ hlow hdep
          have hq : iq < 17 := (Array.getElem?_eq_some_iff.1 hop).1
          have K : iq ≠ 8 → iq ≠ 9 → iq ≠ 10 → iq ≠ 11 → iq ≠ 12 → iq ≠ 14 → iq ≠ 15 → Below W0.heap.size W0 W ∧ ((L.setIfInBounds iq true).getD 8 true = true → (L.setIfInBounds iq true).getD 9 true = false → x.g48 < W.heap.size ∧ W.cell? ⟨x.g48, 0, none⟩ = some (.slice (some ad) k d) ∧ W.cell? ⟨x.g48, 1, none⟩ = some (.slice (some (tailP ad (k + 1) d)) (E.length - (k + 1)) (d - (k + 1)))) ∧ ((L.setIfInBounds iq true).getD 9 true = true → (L.setIfInBounds iq true).getD 10 true = false → ∃ A2 c2, x.v49 = .slice A2 (E.eraseIdx k).length c2 ∧ Row W A2 (pc (E.eraseIdx k))) ∧ ((L.setIfInBounds iq true).getD 10 true = true → (L.setIfInBounds iq true).getD 9 true = true) ∧ ((L.setIfInBounds iq true).getD 11 true = true → (L.setIfInBounds iq true).getD 9 true = true ∧ (L.setIfInBounds iq true).getD 10 true = true) ∧ ((L.setIfInBounds iq true).getD 12 true = true → (L.setIfInBounds iq true).getD 9 true = true ∧ (L.setIfInBounds iq true).getD 10 true = true) ∧ ((L.setIfInBounds iq true).getD 14 true = true → W0.heap.size ≤ x.g15) ∧ ((L.setIfInBounds iq true).getD 14 true = true → (L.setIfInBounds iq true).getD 15 true = false → BlockIs W x.g15 83 wlZ) ∧ ((L.setIfInBounds iq true).getD 15 true = true → BlockIs W x.g15 83 (wlC (.slice A js.length c) (js.length : Int) BK)) := fun h8 h9 h10 h11 h12 h14 h15 => by
            rw [listed_ne h8, listed_ne h9, listed_ne h10, listed_ne h11, listed_ne h12, listed_ne h14, listed_ne h15]
            exact ⟨hS0, hS8, hS9, hI10, hI11, hI12, hG, hZ, hY⟩
          have val_eq : ∀ (q : Nat) (y : Wr), (∀ j, j < 17 → j ≠ q → L.getD j true = true → (#[.slice A js.length c, .slice (some ad) E.length d, .int .i64 (k : Int), .slice (some ad) k d, .slice (some ad) E.length d, .int .i64 (k : Int), .int .i64 ((k : Int) + 1), .slice (some (tailP ad (k + 1) d)) (E.length - (k + 1)) (d - (k + 1)), .slice (some ⟨y.g48, 0, none⟩) 2 2, y.v49, .tuple #[.agg (wlC (.slice A js.length c) (js.length : Int) BK), .bool true], .tuple #[.agg (wlC (.slice A js.length c) (js.length : Int) BK), .bool true], .agg (wlC (.slice A js.length c) (js.length : Int) BK), .bool true, .pointer (some ⟨y.g15, 0, none⟩), undef, .bool true] : Array Value).getD j undef = (#[.slice A js.length c, .slice (some ad) E.length d, .int .i64 (k : Int), .slice (some ad) k d, .slice (some ad) E.length d, .int .i64 (k : Int), .int .i64 ((k : Int) + 1), .slice (some (tailP ad (k + 1) d)) (E.length - (k + 1)) (d - (k + 1)), .slice (some ⟨x.g48, 0, none⟩) 2 2, x.v49, .tuple #[.agg (wlC (.slice A js.length c) (js.length : Int) BK), .bool true], .tuple #[.agg (wlC (.slice A js.length c) (js.length : Int) BK), .bool true], .agg (wlC (.slice A js.length c) (js.length : Int) BK), .bool true, .pointer (some ⟨x.g15, 0, none⟩), undef, .bool true] : Array Value).getD j undef) → L.getD q true = false → ∀ j, L.getD j true = true → (#[.slice A js.length c, .slice (some ad) E.length d, .int .i64 (k : Int), .slice (some ad) k d, .slice (some ad) E.length d, .int .i64 (k : Int), .int .i64 ((k : Int) + 1), .slice (some (tailP ad (k + 1) d)) (E.length - (k + 1)) (d - (k + 1)), .slice (some ⟨y.g48, 0, none⟩) 2 2, y.v49, .tuple #[.agg (wlC (.slice A js.length c) (js.length : Int) BK), .bool true], .tuple #[.agg (wlC (.slice A js.length c) (js.length : Int) BK), .bool true], .agg (wlC (.slice A js.length c) (js.length : Int) BK), .bool true, .pointer (some ⟨y.g15, 0, none⟩), undef, .bool true] : Array Value).getD j undef = (#[.slice A js.length c, .slice (some ad) E.length d, .int .i64 (k : Int), .slice (some ad) k d, .slice (some ad) E.length d, .int .i64 (k : Int), .int .i64 ((k : Int) + 1), .slice (some (tailP ad (k + 1) d)) (E.length - (k + 1)) (d - (k + 1)), .slice (some ⟨x.g48, 0, none⟩) 2 2, x.v49, .tuple #[.agg (wlC (.slice A js.length c) (js.length : Int) BK), .bool true], .tuple #[.agg (wlC (.slice A js.length c) (js.length : Int) BK), .bool true], .agg (wlC (.slice A js.length c) (js.length : Int) BK), .bool true, .pointer (some ⟨x.g15, 0, none⟩), undef, .bool true] : Array Value).getD j undef := fun q y hag hi j hj => by
            by_cases h17 : j < 17
            · exact hag j h17 (fun e => by subst e; rw [hi] at hj; cases hj) hj
            · have h1 : 17 ≤ j := by omega
              rw [Array.getD_eq_getD_getElem?, Array.getD_eq_getD_getElem?, Array.getElem?_eq_none (by simpa using h1), Array.getElem?_eq_none (by simpa using h1)]
          rcases (by omega : iq = 0 ∨ iq = 1 ∨ iq = 2 ∨ iq = 3 ∨ iq = 4 ∨ iq = 5 ∨ iq = 6 ∨ iq = 7 ∨ iq = 8 ∨ iq = 9 ∨ iq = 10 ∨ iq = 11 ∨ iq = 12 ∨ iq = 13 ∨ iq = 14 ∨ iq = 15 ∨ iq = 16) with rfl | rfl | rfl | rfl | rfl | rfl | rfl | rfl | rfl | rfl | rfl | rfl | rfl | rfl | rfl | rfl | rfl
          · obtain rfl := Option.some.inj hop
            have e0 : ac.tmps[0]?.getD undef = .slice A js.length c := (Array.getD_eq_getD_getElem? ..).symm.trans (hlow 0 (by kernel_rfl))
            exact ⟨wanted_free rfl, .inl ⟨x, W, fun _ _ => rfl, by simp [execOp, Act.eval, e0, go_sem], K (by decide) (by decide) (by decide) (by decide) (by decide) (by decide) (by decide)⟩⟩
          · obtain rfl := Option.some.inj hop
            have e2 : ac.tmps[2]?.getD undef = .slice (some ad) E.length d := (Array.getD_eq_getD_getElem? ..).symm.trans (hlow 2 (by kernel_rfl))
            exact ⟨wanted_free rfl, .inl ⟨x, W, fun _ _ => rfl, by simp [execOp, Act.eval, e2, go_sem], K (by decide) (by decide) (by decide) (by decide) (by decide) (by decide) (by decide)⟩⟩
          · obtain rfl := Option.some.inj hop
            have e13 : ac.tmps[13]?.getD undef = .int .i64 (k : Int) := (Array.getD_eq_getD_getElem? ..).symm.trans (hlow 13 (by kernel_rfl))
            exact ⟨wanted_free rfl, .inl ⟨x, W, fun _ _ => rfl, by simp [execOp, Act.eval, e13, go_sem], K (by decide) (by decide) (by decide) (by decide) (by decide) (by decide) (by decide)⟩⟩
          · obtain rfl := Option.some.inj hop
            have e41 : ac.tmps[41]?.getD undef = .slice (some ad) E.length d := (Array.getD_eq_getD_getElem? ..).symm.trans (hdep 1 _ 41 (by kernel_rfl) rfl rfl)
            have e42 : ac.tmps[42]?.getD undef = .int .i64 (k : Int) := (Array.getD_eq_getD_getElem? ..).symm.trans (hdep 2 _ 42 (by kernel_rfl) rfl rfl)
            exact ⟨wanted_free rfl, .inl ⟨x, W, fun _ _ => rfl, exec_slice rfl (by simp only [Act.eval, Option.map_some, Option.map_none, Array.getD_eq_getD_getElem?, e41, e42]; exact slice_hP ad _ d k W (by omega)), K (by decide) (by decide) (by decide) (by decide) (by decide) (by decide) (by decide)⟩⟩
          · obtain rfl := Option.some.inj hop
            have e2 : ac.tmps[2]?.getD undef = .slice (some ad) E.length d := (Array.getD_eq_getD_getElem? ..).symm.trans (hlow 2 (by kernel_rfl))
            exact ⟨wanted_free rfl, .inl ⟨x, W, fun _ _ => rfl, by simp [execOp, Act.eval, e2, go_sem], K (by decide) (by decide) (by decide) (by decide) (by decide) (by decide) (by decide)⟩⟩
          · obtain rfl := Option.some.inj hop
            have e13 : ac.tmps[13]?.getD undef = .int .i64 (k : Int) := (Array.getD_eq_getD_getElem? ..).symm.trans (hlow 13 (by kernel_rfl))
            exact ⟨wanted_free rfl, .inl ⟨x, W, fun _ _ => rfl, by simp [execOp, Act.eval, e13, go_sem], K (by decide) (by decide) (by decide) (by decide) (by decide) (by decide) (by decide)⟩⟩
          · obtain rfl := Option.some.inj hop
            have e45 : ac.tmps[45]?.getD undef = .int .i64 (k : Int) := (Array.getD_eq_getD_getElem? ..).symm.trans (hdep 5 _ 45 (by kernel_rfl) rfl rfl)
            exact ⟨wanted_free rfl, .inl ⟨x, W, fun _ _ => rfl, by simp [execOp, Act.eval, e45, hkw, go_sem], K (by decide) (by decide) (by decide) (by decide) (by decide) (by decide) (by decide)⟩⟩
          · obtain rfl := Option.some.inj hop
            have e44 : ac.tmps[44]?.getD undef = .slice (some ad) E.length d := (Array.getD_eq_getD_getElem? ..).symm.trans (hdep 4 _ 44 (by kernel_rfl) rfl rfl)
            have e46 : ac.tmps[46]?.getD undef = .int .i64 ((k : Int) + 1) := (Array.getD_eq_getD_getElem? ..).symm.trans (hdep 6 _ 46 (by kernel_rfl) rfl rfl)
            exact ⟨wanted_free rfl, .inl ⟨x, W, fun _ _ => rfl, exec_slice rfl (by simp only [Act.eval, Option.map_some, Option.map_none, Array.getD_eq_getD_getElem?, e44, e46]; exact slice_lP ad _ d (k + 1) W (by omega)), K (by decide) (by decide) (by decide) (by decide) (by decide) (by decide) (by decide)⟩⟩
          · obtain rfl := Option.some.inj hop
            have e43 : ac.tmps[43]?.getD undef = .slice (some ad) k d := (Array.getD_eq_getD_getElem? ..).symm.trans (hdep 3 _ 43 (by kernel_rfl) rfl rfl)
            have e47 : ac.tmps[47]?.getD undef = .slice (some (tailP ad (k + 1) d)) (E.length - (k + 1)) (d - (k + 1)) := (Array.getD_eq_getD_getElem? ..).symm.trans (hdep 7 _ 47 (by kernel_rfl) rfl rfl)
            have hb2 := (Below.refl W.heap.size W).alloc (Nat.le_refl _) (.cells #[.slice (some ad) k d, .slice (some (tailP ad (k + 1) d)) (E.length - (k + 1)) (d - (k + 1))] 35)
            have hN := BlockIs.new W 35 #[.slice (some ad) k d, .slice (some (tailP ad (k + 1) d)) (E.length - (k + 1)) (d - (k + 1))]
            have hN9 := hLn 9 (by kernel_rfl)
            refine ⟨wanted_free rfl, .inl ⟨{ x with g48 := W.heap.size }, W.alloc (.cells #[.slice (some ad) k d, .slice (some (tailP ad (k + 1) d)) (E.length - (k + 1)) (d - (k + 1))] 35), (val_eq 8 { x with g48 := W.heap.size } (fun j hj h1 hl => by rcases (by omega : j = 0 ∨ j = 1 ∨ j = 2 ∨ j = 3 ∨ j = 4 ∨ j = 5 ∨ j = 6 ∨ j = 7 ∨ j = 9 ∨ j = 10 ∨ j = 11 ∨ j = 12 ∨ j = 13 ∨ j = 14 ∨ j = 15 ∨ j = 16) with rfl | rfl | rfl | rfl | rfl | rfl | rfl | rfl | rfl | rfl | rfl | rfl | rfl | rfl | rfl | rfl <;> rfl) hLi), by simp [execOp, Act.eval, e43, e47, go_sem], ?_⟩⟩
            dsimp only
            rw [listed_ne (j := 9) (by decide), listed_ne (j := 10) (by decide), listed_ne (j := 11) (by decide), listed_ne (j := 12) (by decide), listed_ne (j := 14) (by decide), listed_ne (j := 15) (by decide)]
            exact ⟨hS0.trans (hb2.mono hS0.size), fun _ _ => ⟨hN.lt, (hN.cell 0).trans rfl, (hN.cell 1).trans rfl⟩, (fun h => by rw [hN9] at h; cases h), hI10, hI11, hI12, hG, (fun h h2 => (hZ h h2).below hb2), (fun h => (hY h).below hb2)⟩
          · obtain rfl := Option.some.inj hop
            have e48 : ac.tmps[48]?.getD undef = .slice (some ⟨x.g48, 0, none⟩) 2 2 := (Array.getD_eq_getD_getElem? ..).symm.trans (hdep 8 _ 48 (by kernel_rfl) rfl rfl)
            have hN10 := hLn 10 (by kernel_rfl)
            have h8t := hLd 8 (by kernel_rfl)
            obtain ⟨hg8, q0, q1⟩ := hS8 h8t hLi
            have hcc := concat2P_any (some ad) (some (tailP ad (k + 1) d)) d (d - (k + 1)) x.g48 (E.take k) (E.drop (k + 1)) W (row_takeP (HROW.out.below hS0) k) (row_tailP (HROW.out.below hS0) (by omega) hcap) (by rw [htl]; exact q0) (by rw [hdl]; exact q1) hg8 (by omega) (by omega)
            rw [hEp] at hcc
            refine ⟨wanted_free rfl, .inr (.inl ⟨54, #[.slice (some ⟨x.g48, 0, none⟩) 2 2], by simp [execOp, Act.eval, e48, go_sem], hcc.mono ?_⟩)⟩
            rintro e w2 ⟨v, rfl, ho, hb2⟩
            obtain ⟨A2, c2, hv2, _, hrow⟩ := own_slice ho
            refine ⟨{ x with v49 := v }, (val_eq 9 { x with v49 := v } (fun j hj h1 hl => by rcases (by omega : j = 0 ∨ j = 1 ∨ j = 2 ∨ j = 3 ∨ j = 4 ∨ j = 5 ∨ j = 6 ∨ j = 7 ∨ j = 8 ∨ j = 10 ∨ j = 11 ∨ j = 12 ∨ j = 13 ∨ j = 14 ∨ j = 15 ∨ j = 16) with rfl | rfl | rfl | rfl | rfl | rfl | rfl | rfl | rfl | rfl | rfl | rfl | rfl | rfl | rfl | rfl <;> rfl) hLi), rfl, ?_⟩
            dsimp only
            rw [listed_at (i := 9) (by rw [hLs]; decide), listed_ne (j := 8) (by decide), listed_ne (j := 10) (by decide), listed_ne (j := 11) (by decide), listed_ne (j := 12) (by decide), listed_ne (j := 14) (by decide), listed_ne (j := 15) (by decide)]
            exact ⟨hS0.trans (hb2.mono hS0.size), (fun _ h => by cases h), (fun _ _ => ⟨A2, c2, hv2, hrow⟩), (fun _ => rfl), (fun h => ⟨rfl, (hI11 h).2⟩), (fun h => ⟨rfl, (hI12 h).2⟩), hG, (fun h h2 => (hZ h h2).below hb2), (fun h => (hY h).below hb2)⟩
          · obtain rfl := Option.some.inj hop
            have e40 : ac.tmps[40]?.getD undef = .slice A js.length c := (Array.getD_eq_getD_getElem? ..).symm.trans (hdep 0 _ 40 (by kernel_rfl) rfl rfl)
            have e49 : ac.tmps[49]?.getD undef = x.v49 := (Array.getD_eq_getD_getElem? ..).symm.trans (hdep 9 _ 49 (by kernel_rfl) rfl rfl)
            have h9t := hLd 9 (by kernel_rfl)
            obtain ⟨A2, c2, hv2, hrow⟩ := hS9 h9t hLi
            rw [hv2] at e49
            have hcc := HWO.out A2 c2 W hS0 hrow
            refine ⟨wanted_free rfl, .inr (.inl ⟨53, #[.slice A js.length c, .slice A2 (E.eraseIdx k).length c2], by simp [execOp, Act.eval, e40, e49, go_sem], hcc.mono ?_⟩)⟩
            rintro e w2 ⟨rfl, hb2⟩
            refine ⟨x, fun _ _ => rfl, rfl, ?_⟩
            dsimp only
            rw [listed_at (i := 10) (by rw [hLs]; decide), listed_ne (j := 8) (by decide), listed_ne (j := 9) (by decide), listed_ne (j := 11) (by decide), listed_ne (j := 12) (by decide), listed_ne (j := 14) (by decide), listed_ne (j := 15) (by decide)]
            exact ⟨hS0.trans (hb2.mono hS0.size), (fun _ h => by rw [h9t] at h; cases h), (fun _ h => by cases h), (fun _ => h9t), (fun _ => ⟨h9t, rfl⟩), (fun _ => ⟨h9t, rfl⟩), hG, (fun h h2 => (hZ h h2).below hb2), (fun h => (hY h).below hb2)⟩
          · obtain rfl := Option.some.inj hop
            have e50 : ac.tmps[50]?.getD undef = .tuple #[.agg (wlC (.slice A js.length c) (js.length : Int) BK), .bool true] := (Array.getD_eq_getD_getElem? ..).symm.trans (hdep 10 _ 50 (by kernel_rfl) rfl rfl)
            have hsrc : L.getD 9 true = true ∧ L.getD 10 true = true := ⟨hI10 (hLd 10 (by kernel_rfl)), hLd 10 (by kernel_rfl)⟩
            refine ⟨wanted_free rfl, .inl ⟨x, W, fun _ _ => rfl, by simp [execOp, Act.eval, e50, go_sem], ?_⟩⟩
            dsimp only
            rw [listed_at (i := 11) (by rw [hLs]; decide), listed_ne (j := 8) (by decide), listed_ne (j := 9) (by decide), listed_ne (j := 10) (by decide), listed_ne (j := 12) (by decide), listed_ne (j := 14) (by decide), listed_ne (j := 15) (by decide)]
            exact ⟨hS0, hS8, hS9, hI10, (fun _ => hsrc), hI12, hG, hZ, hY⟩
          · obtain rfl := Option.some.inj hop
            have e39 : ac.tmps[39]?.getD undef = .tuple #[.agg (wlC (.slice A js.length c) (js.length : Int) BK), .bool true] := (Array.getD_eq_getD_getElem? ..).symm.trans (hdep 11 _ 39 (by kernel_rfl) rfl rfl)
            have hsrc : L.getD 9 true = true ∧ L.getD 10 true = true := hI11 (hLd 11 (by kernel_rfl))
            refine ⟨wanted_free rfl, .inl ⟨x, W, fun _ _ => rfl, by simp [execOp, Act.eval, e39, go_sem], ?_⟩⟩
            dsimp only
            rw [listed_at (i := 12) (by rw [hLs]; decide), listed_ne (j := 8) (by decide), listed_ne (j := 9) (by decide), listed_ne (j := 10) (by decide), listed_ne (j := 11) (by decide), listed_ne (j := 14) (by decide), listed_ne (j := 15) (by decide)]
            exact ⟨hS0, hS8, hS9, hI10, hI11, (fun _ => hsrc), hG, hZ, hY⟩
          · obtain rfl := Option.some.inj hop
            have e39 : ac.tmps[39]?.getD undef = .tuple #[.agg (wlC (.slice A js.length c) (js.length : Int) BK), .bool true] := (Array.getD_eq_getD_getElem? ..).symm.trans (hdep 11 _ 39 (by kernel_rfl) rfl rfl)
            exact ⟨wanted_free rfl, .inl ⟨x, W, fun _ _ => rfl, by simp [execOp, Act.eval, e39, go_sem], K (by decide) (by decide) (by decide) (by decide) (by decide) (by decide) (by decide)⟩⟩
          · obtain rfl := Option.some.inj hop
            have hb2 := (Below.refl W.heap.size W).alloc (Nat.le_refl _) (.cells wlZ 83)
            have hN := BlockIs.new W 83 wlZ
            have hN15 := hLn 15 (by kernel_rfl)
            refine ⟨wanted_free rfl, .inl ⟨{ x with g15 := W.heap.size }, W.alloc (.cells wlZ 83), (val_eq 14 { x with g15 := W.heap.size } (fun j hj h1 hl => by rcases (by omega : j = 0 ∨ j = 1 ∨ j = 2 ∨ j = 3 ∨ j = 4 ∨ j = 5 ∨ j = 6 ∨ j = 7 ∨ j = 8 ∨ j = 9 ∨ j = 10 ∨ j = 11 ∨ j = 12 ∨ j = 13 ∨ j = 15 ∨ j = 16) with rfl | rfl | rfl | rfl | rfl | rfl | rfl | rfl | rfl | rfl | rfl | rfl | rfl | rfl | rfl | rfl <;> rfl) hLi), by simp [execOp, Act.eval, go_sem, wlZ], ?_⟩⟩
            dsimp only
            rw [listed_ne (j := 8) (by decide), listed_ne (j := 9) (by decide), listed_ne (j := 10) (by decide), listed_ne (j := 11) (by decide), listed_ne (j := 12) (by decide), listed_ne (j := 15) (by decide)]
            exact ⟨hS0.trans (hb2.mono hS0.size), (fun h h2 => let t := hS8 h h2; ⟨Nat.lt_of_lt_of_le t.1 hb2.size, (hb2.cell (lt_of_cell t.2.1)).trans t.2.1, (hb2.cell (lt_of_cell t.2.2)).trans t.2.2⟩), (fun h h2 => (hS9 h h2).elim fun a ha => ha.elim fun b hb => ⟨a, b, hb.1, hb.2.below hb2⟩), hI10, hI11, hI12, (fun _ => hS0.size), (fun _ _ => hN), (fun h => by rw [hN15] at h; cases h)⟩
          · obtain rfl := Option.some.inj hop
            have e15 : ac.tmps[15]?.getD undef = .pointer (some ⟨x.g15, 0, none⟩) := (Array.getD_eq_getD_getElem? ..).symm.trans (hdep 14 _ 15 (by kernel_rfl) rfl rfl)
            have e51 : ac.tmps[51]?.getD undef = .agg (wlC (.slice A js.length c) (js.length : Int) BK) := (Array.getD_eq_getD_getElem? ..).symm.trans (hdep 12 _ 51 (by kernel_rfl) rfl rfl)
            have h14t := hLd 14 (by kernel_rfl)
            have h12t := hLd 12 (by kernel_rfl)
            obtain ⟨h9t, h10t⟩ := hI12 h12t
            have hO := hZ h14t hLi
            have hgl := hG h14t
            have hB4 : BlockIs (W.setRow x.g15 (wlC (.slice A js.length c) (js.length : Int) BK)) x.g15 83 (wlC (.slice A js.length c) (js.length : Int) BK) := setRow_heap _ _ _ _ _ _ hO
            refine ⟨wanted_free rfl, .inr (.inr ⟨W.setRow x.g15 (wlC (.slice A js.length c) (js.length : Int) BK), rfl, exec_store10W rfl (by simpa [Act.eval] using e15) (by simpa [Act.eval] using e51) hO rfl rfl (by simp [wlC, Value.oneCell']), ?_⟩)⟩
            dsimp only
            rw [listed_at (i := 15) (by rw [hLs]; decide), listed_ne (j := 8) (by decide), listed_ne (j := 9) (by decide), listed_ne (j := 10) (by decide), listed_ne (j := 11) (by decide), listed_ne (j := 12) (by decide), listed_ne (j := 14) (by decide)]
            exact ⟨below_setRow hS0 hgl _, (fun _ h => by rw [h9t] at h; cases h), (fun _ h => by rw [h10t] at h; cases h), hI10, hI11, hI12, hG, (fun _ h => by cases h), (fun _ => hB4)⟩
          · obtain rfl := Option.some.inj hop
            have e52 : ac.tmps[52]?.getD undef = .bool true := (Array.getD_eq_getD_getElem? ..).symm.trans (hdep 13 _ 52 (by kernel_rfl) rfl rfl)
            exact ⟨wanted_free rfl, .inl ⟨x, W, fun _ _ => rfl, by simp [execOp, Act.eval, e52, go_sem], K (by decide) (by decide) (by decide) (by decide) (by decide) (by decide) (by decide)⟩⟩
      · obtain rfl : k = E.length := by omega
        rw [HEND.out HN.out] at HRR
        have hk2 : ¬ ((E.length : Int) < E.length) := by omega
        have HZ9 := Lib.hid HI.out.1
        have HB9 := Lib.hid HI.out.2
        clear HLE HWW HI HN HEND HHIT HBD HZ3 HB3 HIR
        have r0 : wr.cell? ⟨w.heap.size, 0, none⟩ = some (.int .i64 0) := ((HZ9.out).cell 0).trans rfl
        have r1 : wr.cell? ⟨w.heap.size, 1, none⟩ = some (.int .i64 0) := ((HZ9.out).cell 1).trans rfl
        have f0 := (HZ9.out).frozen 0
        have f1 := (HZ9.out).frozen 1
        go_wp2
        have zf := ((HZ9.out).set 0 (.int .i64 (0))).set 1 (.int .i64 (0))
        have hbe : Below w.heap.size w ((wr.setCell ⟨w.heap.size, 0, none⟩ (.int .i64 (0))).setCell ⟨w.heap.size, 1, none⟩ (.int .i64 (0))) := ((HB9.out).setCell (p := ⟨w.heap.size, 0, none⟩) (Nat.le_refl _) _).setCell (p := ⟨w.heap.size, 1, none⟩) (Nat.le_refl _) _
        generalize ((wr.setCell ⟨w.heap.size, 0, none⟩ (.int .i64 (0))).setCell ⟨w.heap.size, 1, none⟩ (.int .i64 (0))) = V at zf hbe ⊢
        have e1 : V.cell? ⟨w.heap.size, 0, none⟩ = some (.int .i64 (0)) := (zf.cell 0).trans rfl
        have e2 : V.cell? ⟨w.heap.size, 1, none⟩ = some (.int .i64 (0)) := (zf.cell 1).trans rfl
        refine bodyPost_ret (v := .tuple #[.agg #[.int .i64 (0), .int .i64 (0)], .bool false]) (by simp [results, Tryd.f22, e1, e2, go_sem]) rfl ⟨by rw [HRR.out]; rfl, hbe⟩
end
end Go.Proofs.YtjemjdlaoebffaaDoor

end
section
namespace Go.Proofs.YtjemjdlaoebffaaDoor
open Go.RowKit
theorem infoP2 : (Tryd.prog.info? 37).map (fun i => (i.zero, i.size, i.bytes)) = some (some (.agg #[.int .i64 0, .int .i64 0]), 2, 16) := by kernel_rfl
set_option maxRecDepth 100000 in
set_option maxHeartbeats 1000000 in
theorem toIntA2_any (x : Pr) (w : World) :
    Calls Tryd.prog 50 #[.agg #[.int .i64 x.1, .int .i64 x.2]] w fun e w' => e = .returned (.agg #[.int .i64 x.1, .int .i64 x.2]) ∧ Below w.heap.size w w' := by
  have b0 := (Below.refl w.heap.size w).alloc (Nat.le_refl _) (.cells #[.int .i64 x.1, .int .i64 x.2] 37)
  have b1 := b0.alloc b0.size (.cells #[.int .i64 0, .int .i64 0] 37)
  have b2 := b1.alloc b1.size (.cells #[.int .i64 0, .int .i64 0] 37)
  have e0 : (w.alloc (.cells #[.int .i64 x.1, .int .i64 x.2] 37)).heap.size = w.heap.size + 1 := by simp
  have e1 : ((w.alloc (.cells #[.int .i64 x.1, .int .i64 x.2] 37)).alloc (.cells #[.int .i64 0, .int .i64 0] 37)).heap.size = w.heap.size + 1 + 1 := by simp
  have h0 := ((BlockIs.new w 37 #[.int .i64 x.1, .int .i64 x.2]).below ((Below.refl _ _).alloc (Nat.le_refl _) (.cells #[.int .i64 0, .int .i64 0] 37))).below ((Below.refl _ _).alloc (Nat.le_refl _) (.cells #[.int .i64 0, .int .i64 0] 37))
  have h1 := (BlockIs.new (w.alloc (.cells #[.int .i64 x.1, .int .i64 x.2] 37)) 37 #[.int .i64 0, .int .i64 0]).below ((Below.refl _ _).alloc (Nat.le_refl _) (.cells #[.int .i64 0, .int .i64 0] 37))
  have h2 := BlockIs.new ((w.alloc (.cells #[.int .i64 x.1, .int .i64 x.2] 37)).alloc (.cells #[.int .i64 0, .int .i64 0] 37)) 37 #[.int .i64 0, .int .i64 0]
  rw [e0] at h1
  rw [e1] at h2
  have H := Lib.hid (And.intro h0 (And.intro h1 (And.intro h2 b2)))
  clear b0 b1 b2 e0 e1 h0 h1 h2
  go_enter Tryd.func50, Tryd.ntmps50
  go_wp2
  go_loopw [4] (fun i wr => ∃ (k : Nat) (u v : Int), k ≤ 2 ∧ i = .int .i64 (k : Int) ∧ Hid (1 ≤ k → u = x.1) ∧ Hid (2 ≤ k → v = x.2) ∧ BlockIs wr w.heap.size 37 #[.int .i64 x.1, .int .i64 x.2] ∧ BlockIs wr (w.heap.size + 1) 37 #[.int .i64 0, .int .i64 0] ∧ BlockIs wr (w.heap.size + 1 + 1) 37 #[.int .i64 u, .int .i64 v] ∧ Below w.heap.size w wr) (fun i _ => 2 - (intOf i).toNat)
  case atStart => exact ⟨0, 0, 0, by omega, rfl, fun h => by omega, fun h => by omega, H.out⟩
  case round =>
    obtain ⟨k, u, v, hk, rfl, hu, hv, h0, h1, h2, hb⟩ := hrel
    clear H
    have a0 := h0.cell 0
    have a1 := h0.cell 1
    have c0 := h2.cell 0
    have c1 := h2.cell 1
    have f0 := h2.frozen 0
    have f1 := h2.frozen 1
    have r0 := h1.cell 0
    have r1 := h1.cell 1
    have g0 := h1.frozen 0
    have g1 := h1.frozen 1
    simp only [List.getElem?_toArray, List.getElem?_cons_zero, List.getElem?_cons_succ] at a0 a1 c0 c1 r0 r1
    rcases (by omega : k = 0 ∨ k = 1 ∨ k = 2) with rfl | rfl | rfl
    · have H2 := Lib.hid (And.intro (h0.away (g' := w.heap.size + 1 + 1) (by omega) 0 (.int .i64 x.1)) (And.intro (h1.away (g' := w.heap.size + 1 + 1) (by omega) 0 (.int .i64 x.1)) (And.intro (h2.set 0 (.int .i64 x.1)) (hb.setCell (p := ⟨w.heap.size + 1 + 1, 0, none⟩) (by simp; omega) (.int .i64 x.1)))))
      clear h0 h1 h2 hb
      go_wp2
      go_roundw
      case rel => exact ⟨1, x.1, v, by omega, by go_num, fun _ => rfl, fun h => by omega, H2.out⟩
      case measure => simp [intOf]
    · have H2 := Lib.hid (And.intro (h0.away (g' := w.heap.size + 1 + 1) (by omega) 1 (.int .i64 x.2)) (And.intro (h1.away (g' := w.heap.size + 1 + 1) (by omega) 1 (.int .i64 x.2)) (And.intro (h2.set 1 (.int .i64 x.2)) (hb.setCell (p := ⟨w.heap.size + 1 + 1, 1, none⟩) (by simp; omega) (.int .i64 x.2)))))
      clear h0 h1 h2 hb
      go_wp2
      go_roundw
      case rel => exact ⟨2, u, x.2, by omega, by go_num, fun _ => hu.out (by omega), fun _ => rfl, H2.out⟩
      case measure => simp [intOf]
    · obtain rfl := hu.out (by omega)
      obtain rfl := hv.out (by omega)
      have H2 := Lib.hid (And.intro ((h1.set 0 (.int .i64 x.1)).set 1 (.int .i64 x.2)) ((hb.setCell (p := ⟨w.heap.size + 1, 0, none⟩) (by simp) (.int .i64 x.1)).setCell (p := ⟨w.heap.size + 1, 1, none⟩) (by simp) (.int .i64 x.2)))
      clear h0 h1 h2 hb
      go_wp2
      have hZ := H2.out.1
      generalize World.setCell _ _ _ = W at *
      have q0 := hZ.cell 0
      have q1 := hZ.cell 1
      simp at q0 q1
      exact bodyPost_ret (v := .agg #[.int .i64 x.1, .int .i64 x.2]) (by simp [results, Tryd.results50, q0, q1, go_sem]) rfl ⟨rfl, H2.out.2⟩
def set2 (cs : Array Value) (p : Nat) (x : Pr) : Array Value := (cs.setIfInBounds p (.int .i64 x.1)).setIfInBounds (p + 1) (.int .i64 x.2)
theorem set2_size (cs : Array Value) (p : Nat) (x : Pr) : (set2 cs p x).size = cs.size := by unfold set2; simp
theorem Upto.step2 {xs : List Pr} {k : Nat} {cs : Array Value} (h : Upto (pc xs) (k * 2) cs) (hk : k < xs.length) : Upto (pc xs) ((k + 1) * 2) (set2 cs (k * 2) xs[k]) := by
  have hl := pc_len xs
  have g0 : (pc xs)[k * 2]'(by omega) = .int .i64 xs[k].1 := by
    have := pc_get xs k 0 hk (by omega); rw [List.getElem?_eq_getElem (by omega)] at this; exact Option.some.inj this
  have g1 : (pc xs)[k * 2 + 1]'(by omega) = .int .i64 xs[k].2 := by
    have := pc_get xs k 1 hk (by omega); rw [List.getElem?_eq_getElem (by omega)] at this; exact Option.some.inj this
  have h1 := h.step (by omega)
  rw [g0] at h1
  have h2 := h1.step (by omega)
  rw [g1] at h2
  rw [show (k + 1) * 2 = k * 2 + 1 + 1 by omega]
  exact h2
theorem BlockIs.set2 {w : World} {g : Nat} {t : TypeId} {cs : Array Value} (h : BlockIs w g t cs) (p : Nat) (x : Pr) :
    BlockIs ((w.setCell ⟨g, p, none⟩ (.int .i64 x.1)).setCell ⟨g, p + 1, none⟩ (.int .i64 x.2)) g t (set2 cs p x) := (h.set p _).set (p + 1) _
theorem toIntA2S_any (A : Option Addr) (c : Nat) (xs : List Pr) (w : World) (hr : Row w A (pc xs)) (hn : xs.length ≤ 10000000) :
    Calls Tryd.prog 21 #[.slice A xs.length c] w fun e w' => ∃ g, e = .returned (.slice (some ⟨g, 0, none⟩) xs.length xs.length) ∧ w.heap.size ≤ g ∧ w'.ownsRow w.heap.size 37 2 (.slice (some ⟨g, 0, none⟩) xs.length xs.length) xs.length (pc xs) ∧ Below w.heap.size w w' := by
  have hmk := run_make_rows (P := Tryd.prog) 35 37 (.agg #[.int .i64 0, .int .i64 0]) 2 16 Tryd.underlying35 infoP2 .i64 .i64 xs.length (by omega) (by omega)
  go_enter Tryd.func21, Tryd.ntmps21
  go_wp2
  go_loopw [4] (fun i wr => ∃ (k : Nat) (cs : Array Value), k ≤ xs.length ∧ i = .int .i64 k ∧ BlockIs wr w.heap.size 37 cs ∧ Hid (Upto (pc xs) (k * 2) cs) ∧ Below w.heap.size w wr) (fun i _ => xs.length - (intOf i).toNat)
  case atStart =>
    exact ⟨0, _, Nat.zero_le _, rfl, BlockIs.new _ _ _, ⟨by rw [size_madeCells, pc_len]; omega, by omega⟩, (Below.refl _ _).alloc (Nat.le_refl _) _⟩
  case round =>
    obtain ⟨k, cs, hk, rfl, hB, hC, hb⟩ := hrel
    clear hmk
    by_cases hlt : k < xs.length
    · obtain ⟨ad, hA, hbl, hc0, hc1⟩ := (hr.below hb).pair hlt
      subst hA
      go_wp2_with fail
      refine (toIntA2_any xs[k] _).mono ?_
      rintro e w1 ⟨rfl, hb1⟩
      have hz : cs.size = 2 * xs.length := by rw [hC.out.1, pc_len]
      have hB1 := hB.below hb1
      obtain ⟨v0, hk0⟩ := hB1.has (i := k * 2) (by omega)
      obtain ⟨v1, hk1⟩ := hB1.has (i := k * 2 + 1) (by omega)
      have hf0 := hB1.frozen (k * 2)
      have hf1 := hB1.frozen (k * 2 + 1)
      have HC := Lib.hid (hC.out.step2 hlt)
      have HB := Lib.hid (hB1.set2 (k * 2) xs[k])
      have Hb := Lib.hid (hb.trans (hb1.mono hb.size))
      clear hz hB1 hB hC hb hb1 hr hc0 hc1
      generalize xs[k] = j at *
      go_wp2
      go_roundw
      case rel => exact ⟨k + 1, _, by omega, by go_num, HB.out, HC.out, (Hb.out.setCell (Nat.le_refl _) _).setCell (Nat.le_refl _) _⟩
      case measure => simp [intOf]; omega
    · go_wp2
      go_ret
      obtain rfl : k = xs.length := by omega
      refine ⟨_, rfl, Nat.le_refl _, ?_, hb⟩
      have hC' := hC.out
      rw [show xs.length * 2 = (pc xs).length by rw [pc_len]; omega] at hC'
      have hsz : cs.size = xs.length * 2 := by rw [hC'.1, pc_len]; omega
      have := hB.own (base := w.heap.size) (n := xs.length) (c := xs.length) (size := 2) (Nat.le_refl _) (by omega) (Nat.le_refl _) (by unfold maxLen; omega) (by omega)
      rwa [List.take_of_length_le (by simp [hsz]), hC'.all] at this
theorem toIntA2S_seg (A : Option Addr) (c : Nat) (xs : List Pr) (w : World) (hr : Row w A (pc xs)) (hn : xs.length ≤ 10000000) :
    Calls Tryd.prog 21 #[.slice A xs.length c] w fun e w' => ∃ g, e = .returned (.slice (some ⟨g, 0, none⟩) xs.length xs.length) ∧ Seg w' 37 2 w.heap.size w'.heap.size (some ⟨g, 0, none⟩) xs.length xs.length (pc xs) ∧ Below w.heap.size w w' :=
  (toIntA2S_any A c xs w hr hn).mono fun _ _ ⟨g, he, _, ho, hb⟩ => ⟨g, he, Seg.of_own ho, hb⟩
end Go.Proofs.YtjemjdlaoebffaaDoor

end
section
namespace Go.Proofs.YtjemjdlaoebffaaDoor
open Go.RowKit Go.ChangeShapes Go.WideShapes Go.Deep

section
variable {H : Type} {enc : TypeId × Value → H} {P : Program} {w : World} {base : Nat} {spare : Nat → Bool} {held : Bool}
theorem open_slice_array2 {t e k : TypeId} {fuel : Nat} {cs : List Value} {x : DataW H × List MemPlace} (ht : P.underlying t = some (.slice e)) (he : P.underlying e = some (.array 2 k))
    (hC : P.cellsOf e = 2) (hk : P.cellsOf k = 1) (h : DataW.trod enc P w base spare held fuel t cs = some x) :
    (cs = [.slice none 0 0]) ∨
    ∃ (a : Addr) (len cap m : Nat), cs = [.slice (some a) len cap] ∧ len ≤ cap ∧ cap ≤ maxLen ∧ len ≤ m ∧
      ∀ i, i < m → ∃ n : Nat, ∀ (j : Nat), j < 2 → ∃ (v : Value) (y : DataW H × List MemPlace), w.cell? (a.add (i * 2 + j)) = some v ∧ DataW.trod enc P w base spare held n k [v] = some y := by
  rcases open_slice ht h with ⟨h0, _⟩ | ⟨a, len, cap, m, n, D, Pl, hcs, hb, hl, hm, hmm, hx, hi⟩
  · exact .inl h0
  · refine .inr ⟨a, len, cap, m, hcs, hl, hm, by rw [hmm]; split <;> omega, fun i him => ?_⟩
    obtain ⟨cs', hc, ht'⟩ := hi i him
    rw [hC] at hc
    obtain ⟨ys, n', hn', hy, hlen, hyl, hf⟩ := DataW.trod_array he ht'
    obtain ⟨_, hcl, hat⟩ := World.cells?_some hc
    refine ⟨n', fun j hj => ?_⟩
    have hcell := hat j hj
    have hv : cs'[j]? = some (cs'[j]'(by omega)) := List.getElem?_eq_getElem (by omega)
    have h1 := hf j hj
    rw [hk, Nat.mul_one] at h1
    have hone' : (cs'.drop j).take 1 = [cs'[j]'(by omega)] := by
      rw [List.drop_eq_getElem_cons (by omega)]
      rfl
    rw [hone'] at h1
    have hys : ys[j]? = some (ys[j]'(by omega)) := List.getElem?_eq_getElem (by omega)
    refine ⟨_, _, ?_, h1.trans hys⟩
    rw [← Go.Deep.add_add, hcell, hv]
def wfPr (x : Pr) : Prop := (Lit.int .i64 x.1).wf = true ∧ (Lit.int .i64 x.2).wf = true
/-- A slice of pairs that came in. -/
def IsPairsA (w : World) (A : Option Addr) (len cap : Nat) (xs : List Pr) : Prop := xs.length = len ∧ len ≤ cap ∧ cap ≤ maxLen ∧ Row w A (pc xs) ∧ ∀ x ∈ xs, wfPr x
theorem pc_range (f : Nat → Pr) (n : Nat) (u : Value) (i : Nat) (h : (pc ((List.range n).map f))[i]? = some u) : i < n * 2 ∧ (cellsP (f (i / 2)))[i % 2]? = some u := by
  have hi : i < 2 * n := by
    have := (List.getElem?_eq_some_iff.1 h).1
    rw [pc_len] at this; simpa using this
  have hk : i / 2 < ((List.range n).map f).length := by simp; omega
  have := pc_get ((List.range n).map f) (i / 2) (i % 2) hk (by omega)
  rw [show i / 2 * 2 + i % 2 = i by omega, h] at this
  refine ⟨by omega, ?_⟩
  rw [this]
  simp
theorem open_pairs {t e k : TypeId} {fuel : Nat} {cs : List Value} {x : DataW H × List MemPlace} (ht : P.underlying t = some (.slice e)) (he : P.underlying e = some (.array 2 k))
    (hC : P.cellsOf e = 2) (hk : P.cellsOf k = 1) (i0 : P.underlying k = some (.int .i64))
    (h : DataW.trod enc P w base spare held fuel t cs = some x) : ∃ A len cap js, cs = [.slice A len cap] ∧ IsPairsA w A len cap js := by
  rcases open_slice_array2 ht he hC hk h with rfl | ⟨a, len, cap, m, rfl, hl, hm, hlm, hi⟩
  · exact ⟨none, 0, 0, [], rfl, rfl, Nat.le_refl _, Nat.zero_le _, Row.nil _, by simp⟩
  · have key : ∀ i : Nat, ∃ j : Pr, i < m → (w.cell? (a.add (i * 2 + 0)) = some (.int .i64 j.1) ∧ w.cell? (a.add (i * 2 + 1)) = some (.int .i64 j.2)) ∧ wfPr j := by
      intro i
      by_cases him : i < m
      · obtain ⟨n, hf⟩ := hi i him
        obtain ⟨v0, y0, c0, t0⟩ := hf 0 (by omega)
        obtain ⟨v1, y1, c1, t1⟩ := hf 1 (by omega)
        obtain ⟨n0, e0, _, w0⟩ := DataW.trod_int i0 t0
        obtain ⟨n1, e1, _, w1⟩ := DataW.trod_int i0 t1
        injection e0 with e0 _
        injection e1 with e1 _
        subst e0 e1
        exact ⟨(n0, n1), fun _ => ⟨⟨c0, c1⟩, w0, w1⟩⟩
      · exact ⟨(0, 0), fun h => absurd h him⟩
    obtain ⟨f, hf⟩ := Classical.axiomOfChoice key
    refine ⟨some a, len, cap, (List.range len).map f, rfl, by simp, hl, hm, fun hn => ?_, ?_⟩
    · rw [pc_len] at hn
      have h0 : 0 < len := by simpa using hn
      have hc0 := (hf 0 (by omega)).1.1
      have hb := lt_of_cell hc0
      rw [add_block] at hb
      refine ⟨a, rfl, hb, fun j u hu => ?_⟩
      obtain ⟨hj, hu'⟩ := pc_range f len u j hu
      obtain ⟨⟨c0, c1⟩, _⟩ := hf (j / 2) (by omega)
      have ej : a.add j = a.add (j / 2 * 2 + j % 2) := by rw [show j / 2 * 2 + j % 2 = j by omega]
      rw [ej]
      have h4 : j % 2 = 0 ∨ j % 2 = 1 := by omega
      rcases h4 with h4 | h4 <;> rw [h4] at hu' ⊢ <;> simp [cellsP] at hu' <;> subst hu' <;> assumption
    · intro j hj
      obtain ⟨i, hi, rfl⟩ := List.mem_map.1 hj
      exact (hf i (by have := List.mem_range.1 hi; omega)).2
end
theorem szIntA2S_any (A : Option Addr) (n c : Nat) (left : Int) (w : World) (hn : n ≤ maxLen) (h0 : 0 ≤ left) (h1 : left ≤ 1048576) :
    Calls Tryd.prog 19 #[.slice A n c, .int .i64 left] w fun e w' => ((e = .returned (.int .i64 (left - n)) ∧ (n : Int) ≤ left) ∨ (e = .returned (.int .i64 (-1)) ∧ left < n)) ∧ w = w' := by
  unfold maxLen at hn
  by_cases h : (n : Int) ≤ left
  · go_enter Tryd.func19, Tryd.ntmps19
    go_wp2
    go_ret
    first | exact ⟨.inl ⟨rfl, h⟩, rfl⟩ | exact ⟨.inl rfl, rfl⟩
  · go_enter Tryd.func19, Tryd.ntmps19
    go_wp2
    go_ret
    first | exact ⟨.inr ⟨rfl, by omega⟩, rfl⟩ | exact ⟨.inr rfl, rfl⟩
theorem argP_kinds : Tryd.prog.underlying 35 = some (.slice 37) ∧ Tryd.prog.underlying 37 = some (.array 2 3) ∧ Tryd.prog.cellsOf 37 = 2 ∧ Tryd.prog.cellsOf 3 = 1 :=
  ⟨Tryd.underlying35, Tryd.underlying37, by kernel_rfl, by kernel_rfl⟩
end Go.Proofs.YtjemjdlaoebffaaDoor

end
