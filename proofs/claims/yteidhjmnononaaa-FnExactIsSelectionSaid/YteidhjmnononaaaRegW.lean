/- A region with guards that are known, in whatever order its edges allow. -/
import Derived.Test.YteidhjmnononaaaRegInv
namespace Go.Proofs.Yteidhjmnononaaa
section
variable {P : Program} {ops : Array Oper} {Q : Exit → Act → World → Prop}
theorem wpOp_valueW {i : Nat} {o : Oper} {a : Act} {w w' : World} {v : Value} {K : Act → World → Prop} (ho : ops[i]? = some o) (hg : Region.wanted o (yielded ops a.tmps) = true) (hr : (execOp a.eval o).run P w = .ok (.value v) w') (hK : K (a.put o.dst v) w') : wpOp P ops Q i K a w := by
  unfold wpOp
  rw [ho]
  simp only [hg, if_true]
  left
  unfold Oper.wp
  rw [hr]
  exact hK
theorem wpOp_enterW {i : Nat} {o : Oper} {a : Act} {w w' : World} {f : FuncId} {args : Array Value} {K : Act → World → Prop} (ho : ops[i]? = some o) (hg : Region.wanted o (yielded ops a.tmps) = true) (hr : (execOp a.eval o).run P w = .ok (.enter f args) w') (hK : Calls P f args w' fun e w'' => ∃ v, e = .returned v ∧ K (a.put o.dst v) w'') : wpOp P ops Q i K a w := by
  unfold wpOp
  rw [ho]
  simp only [hg, if_true]
  left
  unfold Oper.wp
  rw [hr]
  refine Calls.mono hK ?_
  rintro e w'' ⟨v, rfl, h⟩
  exact h
/-- What is not guarded is wanted. -/
theorem wanted_free {o : Oper} {y : Nat → Option Bool} (h : o.guard = none) : Region.wanted o y = true := by simp [Region.wanted, h]
/-- What is guarded is wanted where the guard has the value that it asks. -/
theorem wanted_guard {o og : Oper} {tm : Array Value} {g d : Nat} {b : Bool} (h : o.guard = some (g, b)) (hg : ops[g]? = some og) (hd : og.dst = some d) (hv : tm.getD d undef = .bool b) : Region.wanted o (yielded ops tm) = true := by
  have hy : yielded ops tm g = some b := by
    unfold yielded
    rw [hg, Option.bind_some, hd, Option.bind_some]
    rw [Array.getD_eq_getD_getElem?] at hv
    cases ht : tm[d]? with
    | none => rw [ht] at hv; simp [undef] at hv
    | some v => rw [ht, Option.getD_some] at hv; subst hv; rfl
  simp [Region.wanted, h, hy]
/-- A region all of whose operations yield one value each, in whatever order they come up. -/
theorem wp_region_detW {id : Nat} {tm0 : Array Value} {df : List Deferred} {w : World} (hm : P.follows .mixedOrders = true) (S : Array Bool → World → Prop) (val : Nat → Value) (hback : backB ops = true) (hown : ownDst ops tm0.size = true)
    (h0 : S (Array.replicate ops.size false) w.drew)
    (hdone : ∀ (L : Array Bool) (tm : Array Value) (w : World), (∀ i, i < ops.size → L.getD i true = true) → S L w → tm.size = tm0.size → (∀ t, ((List.range ops.size).all fun j => !((ops[j]?).bind (·.dst) == some t)) = true → tm.getD t undef = tm0.getD t undef) → (∀ j o d, ops[j]? = some o → o.dst = some d → tm.getD d undef = val j) → Q .normal ⟨tm, df⟩ w)
    (hstep : ∀ (L : Array Bool) (a : Act) (w : World) (i : Nat) (o : Oper), L.size = ops.size → ops[i]? = some o → L.getD i true = false → (∀ j, edgeB ops i j = true → L.getD j true = true) → (∀ j, edgeB ops j i = true → L.getD j true = false) → S L w → (∀ t, ((List.range ops.size).all fun j => !((ops[j]?).bind (·.dst) == some t)) = true → a.tmps.getD t undef = tm0.getD t undef) →
      (∀ j oj d, edgeB ops i j = true → ops[j]? = some oj → oj.dst = some d → a.tmps.getD d undef = val j) →
      (∀ j oj d, edgeB ops j i = true → ops[j]? = some oj → oj.dst = some d → a.tmps.getD d undef = tm0.getD d undef) → Region.wanted o (yielded ops a.tmps) = true ∧ StepTo P (S (L.setIfInBounds i true)) o a w (val i)) :
    (Code.region id ops true).wp P Q ⟨tm0, df⟩ w := by
  refine wp_region_inv hm (fun L a w => S L w ∧ a.defers = df ∧ a.tmps.size = tm0.size ∧ (∀ t, ((List.range ops.size).all fun j => !((ops[j]?).bind (·.dst) == some t)) = true → a.tmps.getD t undef = tm0.getD t undef) ∧ (∀ j o d, ops[j]? = some o → o.dst = some d → L.getD j true = true → a.tmps.getD d undef = val j) ∧ (∀ j o d, ops[j]? = some o → o.dst = some d → L.getD j true = false → a.tmps.getD d undef = tm0.getD d undef)) (back_of hback) ?_ ?_ ?_
  · refine ⟨h0, rfl, rfl, fun _ _ => rfl, fun j o d ho _ hl => ?_, fun _ _ _ _ _ _ => rfl⟩
    have hj : j < ops.size := (Array.getElem?_eq_some_iff.1 ho).1
    simp [Array.getD_eq_getD_getElem?, hj] at hl
  · intro L a w ⟨hS, hdf, hsz, hlow, hval, _⟩ hall
    obtain ⟨tm, df'⟩ := a
    simp only at hdf hsz
    subst hdf
    exact hdone L tm w hall hS hsz hlow (fun j o d ho hd => hval j o d ho hd (hall j (Array.getElem?_eq_some_iff.1 ho).1))
  · intro L a w i o hC ⟨hS, hdf, hsz, hlow, hval, hold⟩ ho hl hd
    obtain ⟨hg, hst⟩ := hstep L a w i o hC.1 ho hl (fun j he => dep_of ho hd he) (fun j he => hC.no he hl) hS hlow (fun j oj d he hoj hdj => hval j oj d hoj hdj (dep_of ho hd he)) (fun j oj d he hoj hdj => hold j oj d hoj hdj (hC.no he hl))
    have next : ∀ w', S (L.setIfInBounds i true) w' → S (L.setIfInBounds i true) w' ∧ (a.put o.dst (val i)).defers = df ∧ (a.put o.dst (val i)).tmps.size = tm0.size ∧ (∀ t, ((List.range ops.size).all fun j => !((ops[j]?).bind (·.dst) == some t)) = true → (a.put o.dst (val i)).tmps.getD t undef = tm0.getD t undef) ∧ (∀ j o' d, ops[j]? = some o' → o'.dst = some d → (L.setIfInBounds i true).getD j true = true → (a.put o.dst (val i)).tmps.getD d undef = val j) ∧ (∀ j o' d, ops[j]? = some o' → o'.dst = some d → (L.setIfInBounds i true).getD j true = false → (a.put o.dst (val i)).tmps.getD d undef = tm0.getD d undef) := by
      intro w' hS'
      cases hod : o.dst with
      | none =>
        refine ⟨hS', hdf, hsz, hlow, fun j o' d ho' hd' hl' => ?_, fun j o' d ho' hd' hl' => ?_⟩
        · have hne : i ≠ j := fun e => by subst e; rw [ho] at ho'; injection ho' with ho'; subst ho'; rw [hod] at hd'; cases hd'
          rw [getD_set_true, if_neg (fun h => hne h.1)] at hl'
          exact hval j o' d ho' hd' hl'
        · have hne : i ≠ j := fun e => by subst e; rw [ho] at ho'; injection ho' with ho'; subst ho'; rw [hod] at hd'; cases hd'
          rw [getD_set_true, if_neg (fun h => hne h.1)] at hl'
          exact hold j o' d ho' hd' hl'
      | some d0 =>
        have hput : ∀ t, (a.put (some d0) (val i)).tmps.getD t undef = if d0 = t ∧ t < a.tmps.size then val i else a.tmps.getD t undef := by
          intro t
          unfold Act.put
          simp only [Array.getD_eq_getD_getElem?, Array.getElem?_setIfInBounds]
          by_cases e : d0 = t
          · subst e
            by_cases h : d0 < a.tmps.size
            · simp [h]
            · simp [h]
          · simp [e]
        refine ⟨hS', hdf, by simp [Act.put, hsz], fun t ht => ?_, fun j o' d ho' hd' hl' => ?_, fun j o' d ho' hd' hl' => ?_⟩
        · rw [hput, if_neg (fun h => ?_)]
          · exact hlow t ht
          · have := List.all_eq_true.1 ht i (List.mem_range.2 (Array.getElem?_eq_some_iff.1 ho).1)
            rw [ho] at this
            simp [hod, h.1] at this
        · rw [hput]
          by_cases e : d0 = d
          · subst e
            have hij := ownDst_inj hown ho hod ho' hd'
            subst hij
            rw [if_pos ⟨rfl, by rw [hsz]; exact ownDst_lt hown ho hod⟩]
          · rw [if_neg (fun h => e h.1)]
            have hne : i ≠ j := fun e' => by subst e'; rw [ho] at ho'; injection ho' with ho'; subst ho'; rw [hod] at hd'; injection hd' with hd'; exact e hd'
            rw [getD_set_true, if_neg (fun h => hne h.1)] at hl'
            exact hval j o' d ho' hd' hl'
        · have hli : i ≠ j := fun e => by
            subst e
            have hC1 : i < L.size := by rw [hC.1]; exact (Array.getElem?_eq_some_iff.1 ho).1
            rw [getD_set_true, if_pos ⟨rfl, hC1⟩] at hl'; cases hl'
          rw [getD_set_true, if_neg (fun h => hli h.1)] at hl'
          have hdd : d0 ≠ d := fun e => by subst e; exact hli (ownDst_inj hown ho' hd' ho hod)
          rw [hput, if_neg (fun h => hdd h.1)]
          exact hold j o' d ho' hd' hl'
    rcases hst with ⟨w', hr, hS'⟩ | ⟨f, args, hr, hc⟩
    · exact wpOp_valueW ho hg hr (next w' hS')
    · refine wpOp_enterW ho hg hr (hc.mono ?_)
      rintro e w' ⟨rfl, hS'⟩
      exact ⟨_, rfl, next w' hS'⟩
end
end Go.Proofs.Yteidhjmnononaaa
