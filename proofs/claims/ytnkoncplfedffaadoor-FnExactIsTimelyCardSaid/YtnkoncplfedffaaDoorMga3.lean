/- Texts joined: RegInvK RegR RegW RegY RegX Plain Pln Tot Cmd SortM SrtD SegS AppW OwnSS Srt. -/
import Derived.OrdersIn
import Derived.TacticsIn
import Derived.Shelf.RegionOpen
import Derived.StillTailTactics
import Derived.OwnWalk
import Derived.Maps.AppendAt
import Derived.RegionTactic
import Derived.BigRegion
import Derived.RangeFuncNested
import Derived.Test.YtnkoncplfedffaaDoorMga2
namespace Go.Proofs.YtnkoncplfedffaaDoor
section
variable {P : Program} {ops : Array Oper} {Q : Exit → Act → World → Prop}
def StepK {γ : Type} (P : Program) (S : γ → Array Bool → World → Prop) (val : γ → Nat → Value) (x : γ) (L : Array Bool) (i : Nat) (o : Oper) (a : Act) (w : World) : Prop :=
  (∃ x' w', (∀ j, L.getD j true = true → val x' j = val x j) ∧ (execOp a.eval o).run P w = .ok (.value (val x' i)) w' ∧ S x' (L.setIfInBounds i true) w') ∨
  ((∃ f args, (execOp a.eval o).run P w = .ok (.enter f args) w ∧ Calls P f args w fun e w' => ∃ x', (∀ j, L.getD j true = true → val x' j = val x j) ∧ e = .returned (val x' i) ∧ S x' (L.setIfInBounds i true) w') ∨
   (∃ x' w', (∀ j, L.getD j true = true → val x' j = val x j) ∧ o.dst = none ∧ (execOp a.eval o).run P w = .ok .skip w' ∧ S x' (L.setIfInBounds i true) w'))
theorem wp_region_detK {γ : Type} {id : Nat} {tm0 : Array Value} {df : List Deferred} {w : World} (hm : P.follows .mixedOrders = true) (S : γ → Array Bool → World → Prop) (val : γ → Nat → Value) (x0 : γ) (hback : backB ops = true) (hown : ownDst ops tm0.size = true)
    (h0 : S x0 (Array.replicate ops.size false) w.drew)
    (hdone : ∀ (x : γ) (L : Array Bool) (tm : Array Value) (w : World), (∀ i, i < ops.size → L.getD i true = true) → S x L w → tm.size = tm0.size → (∀ t, ((List.range ops.size).all fun j => !((ops[j]?).bind (·.dst) == some t)) = true → tm.getD t undef = tm0.getD t undef) → (∀ j o d, ops[j]? = some o → o.dst = some d → tm.getD d undef = val x j) → Q .normal ⟨tm, df⟩ w)
    (hstep : ∀ (x : γ) (L : Array Bool) (a : Act) (w : World) (i : Nat) (o : Oper), L.size = ops.size → ops[i]? = some o → L.getD i true = false → (∀ j, edgeB ops i j = true → L.getD j true = true) → (∀ j, edgeB ops j i = true → L.getD j true = false) → S x L w → (∀ t, ((List.range ops.size).all fun j => !((ops[j]?).bind (·.dst) == some t)) = true → a.tmps.getD t undef = tm0.getD t undef) →
      (∀ j oj d, edgeB ops i j = true → ops[j]? = some oj → oj.dst = some d → a.tmps.getD d undef = val x j) →
      (∀ j oj d, edgeB ops j i = true → ops[j]? = some oj → oj.dst = some d → a.tmps.getD d undef = tm0.getD d undef) → o.guard = none ∧ StepK P S val x L i o a w) :
    (Code.region id ops true).wp P Q ⟨tm0, df⟩ w := by
  refine wp_region_inv hm (fun L a w => ∃ x, S x L w ∧ a.defers = df ∧ a.tmps.size = tm0.size ∧ (∀ t, ((List.range ops.size).all fun j => !((ops[j]?).bind (·.dst) == some t)) = true → a.tmps.getD t undef = tm0.getD t undef) ∧ (∀ j o d, ops[j]? = some o → o.dst = some d → L.getD j true = true → a.tmps.getD d undef = val x j) ∧ (∀ j o d, ops[j]? = some o → o.dst = some d → L.getD j true = false → a.tmps.getD d undef = tm0.getD d undef)) (back_of hback) ?_ ?_ ?_
  · refine ⟨x0, h0, rfl, rfl, fun _ _ => rfl, fun j o d ho _ hl => ?_, fun _ _ _ _ _ _ => rfl⟩
    have hj : j < ops.size := (Array.getElem?_eq_some_iff.1 ho).1
    simp [Array.getD_eq_getD_getElem?, hj] at hl
  · intro L a w ⟨x, hS, hdf, hsz, hlow, hval, _⟩ hall
    obtain ⟨tm, df'⟩ := a
    simp only at hdf hsz
    subst hdf
    exact hdone x L tm w hall hS hsz hlow (fun j o d ho hd => hval j o d ho hd (hall j (Array.getElem?_eq_some_iff.1 ho).1))
  · intro L a w i o hC ⟨x, hS, hdf, hsz, hlow, hval, hold⟩ ho hl hd
    obtain ⟨hg, hst⟩ := hstep x L a w i o hC.1 ho hl (fun j he => dep_of ho hd he) (fun j he => hC.no he hl) hS hlow (fun j oj d he hoj hdj => hval j oj d hoj hdj (dep_of ho hd he)) (fun j oj d he hoj hdj => hold j oj d hoj hdj (hC.no he hl))
    have next : ∀ x' w', (∀ j, L.getD j true = true → val x' j = val x j) → S x' (L.setIfInBounds i true) w' → S x' (L.setIfInBounds i true) w' ∧ (a.put o.dst (val x' i)).defers = df ∧ (a.put o.dst (val x' i)).tmps.size = tm0.size ∧ (∀ t, ((List.range ops.size).all fun j => !((ops[j]?).bind (·.dst) == some t)) = true → (a.put o.dst (val x' i)).tmps.getD t undef = tm0.getD t undef) ∧ (∀ j o' d, ops[j]? = some o' → o'.dst = some d → (L.setIfInBounds i true).getD j true = true → (a.put o.dst (val x' i)).tmps.getD d undef = val x' j) ∧ (∀ j o' d, ops[j]? = some o' → o'.dst = some d → (L.setIfInBounds i true).getD j true = false → (a.put o.dst (val x' i)).tmps.getD d undef = tm0.getD d undef) := by
      intro x' w' hag hS'
      cases hod : o.dst with
      | none =>
        refine ⟨hS', hdf, hsz, hlow, fun j o' d ho' hd' hl' => ?_, fun j o' d ho' hd' hl' => ?_⟩
        · have hne : i ≠ j := fun e => by subst e; rw [ho] at ho'; injection ho' with ho'; subst ho'; rw [hod] at hd'; cases hd'
          rw [getD_set_true, if_neg (fun h => hne h.1)] at hl'
          rw [hag j hl']; exact hval j o' d ho' hd' hl'
        · have hne : i ≠ j := fun e => by subst e; rw [ho] at ho'; injection ho' with ho'; subst ho'; rw [hod] at hd'; cases hd'
          rw [getD_set_true, if_neg (fun h => hne h.1)] at hl'
          exact hold j o' d ho' hd' hl'
      | some d0 =>
        have hput : ∀ t, (a.put (some d0) (val x' i)).tmps.getD t undef = if d0 = t ∧ t < a.tmps.size then val x' i else a.tmps.getD t undef := by
          intro t
          unfold Act.put
          simp only [Array.getD_eq_getD_getElem?, Array.getElem?_setIfInBounds]
          by_cases e : d0 = t
          · subst e
            by_cases h : d0 < a.tmps.size
            · simp [h]
            · simp [h]
          · simp [e]
        refine ⟨hS', hdf, by simp [Act.put, hsz], fun t ht => ?_, fun j o' d ho' hd' hl' => ?_, fun j o' d ho' hd' hl' => ?_⟩
        · rw [hput, if_neg (fun h => ?_)]
          · exact hlow t ht
          · have := List.all_eq_true.1 ht i (List.mem_range.2 (Array.getElem?_eq_some_iff.1 ho).1)
            rw [ho] at this
            simp [hod, h.1] at this
        · rw [hput]
          by_cases e : d0 = d
          · subst e
            have hij := ownDst_inj hown ho hod ho' hd'
            subst hij
            rw [if_pos ⟨rfl, by rw [hsz]; exact ownDst_lt hown ho hod⟩]
          · rw [if_neg (fun h => e h.1)]
            have hne : i ≠ j := fun e' => by subst e'; rw [ho] at ho'; injection ho' with ho'; subst ho'; rw [hod] at hd'; injection hd' with hd'; exact e hd'
            rw [getD_set_true, if_neg (fun h => hne h.1)] at hl'
            rw [hag j hl']; exact hval j o' d ho' hd' hl'
        · have hli : i ≠ j := fun e => by
            subst e
            have hC1 : i < L.size := by rw [hC.1]; exact (Array.getElem?_eq_some_iff.1 ho).1
            rw [getD_set_true, if_pos ⟨rfl, hC1⟩] at hl'; cases hl'
          rw [getD_set_true, if_neg (fun h => hli h.1)] at hl'
          have hdd : d0 ≠ d := fun e => by subst e; exact hli (ownDst_inj hown ho' hd' ho hod)
          rw [hput, if_neg (fun h => hdd h.1)]
          exact hold j o' d ho' hd' hl'
    rcases hst with ⟨x', w', hag, hr, hS'⟩ | ⟨f, args, hr, hc⟩ | ⟨x', w', hag, hnd, hr, hS'⟩
    · exact wpOp_value ho hg hr ⟨x', next x' w' hag hS'⟩
    · refine wpOp_enter ho hg hr (hc.mono ?_)
      rintro e w' ⟨x', hag, rfl, hS'⟩
      exact ⟨_, rfl, x', next x' w' hag hS'⟩
    · refine wpOp_skip ho hg hr ⟨x', ?_⟩
      have h := next x' w' hag hS'
      rw [hnd] at h ⊢
      exact h
end
end Go.Proofs.YtnkoncplfedffaaDoor

namespace Go.Proofs.YtnkoncplfedffaaDoor
section
variable {F : Fence} {n : Nat} {P : Program} {ops : Array Oper} {Q : Exit → Act → World → Prop}
theorem wpAnyIn_inv (Inv : Array Bool → Act → World → Prop) (hback : ∀ (i : Nat) (o : Oper), ops[i]? = some o → ∀ e ∈ o.after, e.on < i)
    (hdone : ∀ listed a w, Inv listed a w → (∀ i, i < ops.size → listed.getD i true = true) → Q .normal a w)
    (hstep : ∀ listed a w (i : Nat) (o : Oper), Closed ops listed → Inv listed a w → ops[i]? = some o → listed.getD i true = false → (∀ e ∈ o.after, Region.binds .any e = true → listed.getD e.on false = true) → wpOpIn F n P ops Q i (fun a' w' => Inv (listed.setIfInBounds i true) a' w') a w) :
    ∀ (fuel : Nat) (listed : Array Bool) (a : Act) (w : World), Closed ops listed → unl ops listed ≤ fuel → Inv listed a w → wpAnyIn F n P .any ops Q fuel listed a w
  | 0, listed, a, w, hc, hf, hi => by
    have hr : Region.ready .any ops listed = [] := by
      apply List.eq_nil_iff_forall_not_mem.2
      intro i hm
      obtain ⟨hl, o, ho, _⟩ := mem_ready.1 hm
      have hpos : 0 < unl ops listed := List.countP_pos_iff.2 ⟨i, List.mem_range.2 (Array.getElem?_eq_some_iff.1 ho).1, by rw [hl]; rfl⟩
      omega
    exact ⟨hr, hdone listed a w hi (all_of_ready hc.1 hback hr)⟩
  | fuel + 1, listed, a, w, hc, hf, hi => by
    refine ⟨fun hr => hdone listed a w hi (all_of_ready hc.1 hback hr), fun i hm => ?_⟩
    obtain ⟨hl, o, ho, hall⟩ := mem_ready.1 hm
    have hlt : i < ops.size := (Array.getElem?_eq_some_iff.1 ho).1
    refine wpOpIn_mono (fun a' w' hi' => wpAnyIn_inv Inv hback hdone hstep fuel _ a' w' (hc.step hm) ?_ hi') (hstep listed a w i o hc hi ho hl hall)
    have : unl ops (listed.setIfInBounds i true) < unl ops listed := by
      refine countP_lt (i := i) (fun x hx => ?_) (by rw [hl]; rfl) ?_ _ (List.mem_range.2 hlt)
      · rw [getD_set_true] at hx
        by_cases h : i = x ∧ x < listed.size
        · rw [if_pos h] at hx; cases hx
        · rwa [if_neg h] at hx
      · rw [getD_set_true, if_pos ⟨rfl, by rw [hc.1]; exact hlt⟩]; rfl
    omega
theorem wpIn_region_inv {id : Nat} {a : Act} {w : World} (hm : P.follows .mixedOrders = true) (Inv : Array Bool → Act → World → Prop) (hback : ∀ (i : Nat) (o : Oper), ops[i]? = some o → ∀ e ∈ o.after, e.on < i)
    (h0 : Inv (Array.replicate ops.size false) a w.drew)
    (hdone : ∀ listed a w, Inv listed a w → (∀ i, i < ops.size → listed.getD i true = true) → Q .normal a w)
    (hstep : ∀ listed a w (i : Nat) (o : Oper), Closed ops listed → Inv listed a w → ops[i]? = some o → listed.getD i true = false → (∀ e ∈ o.after, Region.binds .any e = true → listed.getD e.on false = true) → wpOpIn F n P ops Q i (fun a' w' => Inv (listed.setIfInBounds i true) a' w') a w) :
    (Code.region id ops true).wpIn F n P Q a w :=
  wpIn_region_any hm (wpAnyIn_inv Inv hback hdone hstep _ _ _ _ Closed.start (Nat.le_trans List.countP_le_length (by simp)) h0)
/-- No operation is a defer statement. -/
def calmB (ops : Array Oper) : Bool := ops.all fun o => match o.op with
  | .defer _ => false
  | _ => true
theorem calm_of (h : calmB ops = true) {i : Nat} {o : Oper} (ho : ops[i]? = some o) : ∀ c, o.op ≠ .defer c := by
  intro c e
  unfold calmB at h
  rw [Array.all_eq_true_iff_forall_mem] at h
  have := h o (Array.mem_of_getElem? ho)
  rw [e] at this
  cases this
theorem semAt_calm (hc : calmB ops = true) {i : Nat} {o : Oper} (ho : ops[i]? = some o) (r : Option Nat) (ρ : Operand → Value) : Oper.semAt r ρ o = execOp ρ o := by
  cases r with
  | none => rfl
  | some l => exact Oper.semAt_some l ρ o (calm_of hc ho)
theorem wpOpIn_valueR (hF : ∀ f, F.fn f) (hc : calmB ops = true) {i : Nat} {o : Oper} {a : Act} {w w' : World} {v : Value} {K : Act → World → Prop} (ho : ops[i]? = some o) (hg : o.guard = none) (hr : (execOp a.eval o).run P w = .ok (.value v) w') (hK : K (a.put o.dst v) w') : wpOpIn F n P ops Q i K a w := by
  refine wpOpIn_step ho fun K' hKK => ?_
  simp only [Region.wanted, hg, if_true]
  refine ⟨fun f _ => hF f, ?_⟩
  rw [semAt_calm hc ho, hr]
  exact hKK _ _ hK
theorem wpOpIn_skipR (hF : ∀ f, F.fn f) (hc : calmB ops = true) {i : Nat} {o : Oper} {a : Act} {w w' : World} {K : Act → World → Prop} (ho : ops[i]? = some o) (hg : o.guard = none) (hr : (execOp a.eval o).run P w = .ok .skip w') (hK : K (a.put o.dst undef) w') : wpOpIn F n P ops Q i K a w := by
  refine wpOpIn_step ho fun K' hKK => ?_
  simp only [Region.wanted, hg, if_true]
  refine ⟨fun f _ => hF f, ?_⟩
  rw [semAt_calm hc ho, hr]
  exact hKK _ _ hK
def StepR {γ : Type} (P : Program) (S : γ → Array Bool → World → Prop) (val : γ → Nat → Value) (x : γ) (L : Array Bool) (i : Nat) (o : Oper) (a : Act) (w : World) : Prop :=
  (∃ x' w', (∀ j, L.getD j true = true → val x' j = val x j) ∧ (execOp a.eval o).run P w = .ok (.value (val x' i)) w' ∧ S x' (L.setIfInBounds i true) w') ∨
  (∃ x' w', (∀ j, L.getD j true = true → val x' j = val x j) ∧ o.dst = none ∧ (execOp a.eval o).run P w = .ok .skip w' ∧ S x' (L.setIfInBounds i true) w')
theorem wpIn_region_detR {γ : Type} (hF : ∀ f, F.fn f) (hcalm : calmB ops = true) {id : Nat} {tm0 : Array Value} {df : List Deferred} {w : World} (hm : P.follows .mixedOrders = true) (S : γ → Array Bool → World → Prop) (val : γ → Nat → Value) (x0 : γ) (hback : backB ops = true) (hown : ownDst ops tm0.size = true)
    (h0 : S x0 (Array.replicate ops.size false) w.drew)
    (hdone : ∀ (x : γ) (L : Array Bool) (tm : Array Value) (w : World), (∀ i, i < ops.size → L.getD i true = true) → S x L w → tm.size = tm0.size → (∀ t, ((List.range ops.size).all fun j => !((ops[j]?).bind (·.dst) == some t)) = true → tm.getD t undef = tm0.getD t undef) → (∀ j o d, ops[j]? = some o → o.dst = some d → tm.getD d undef = val x j) → Q .normal ⟨tm, df⟩ w)
    (hstep : ∀ (x : γ) (L : Array Bool) (a : Act) (w : World) (i : Nat) (o : Oper), L.size = ops.size → ops[i]? = some o → L.getD i true = false → (∀ j, edgeB ops i j = true → L.getD j true = true) → (∀ j, edgeB ops j i = true → L.getD j true = false) → S x L w → (∀ t, ((List.range ops.size).all fun j => !((ops[j]?).bind (·.dst) == some t)) = true → a.tmps.getD t undef = tm0.getD t undef) →
      (∀ j oj d, edgeB ops i j = true → ops[j]? = some oj → oj.dst = some d → a.tmps.getD d undef = val x j) →
      (∀ j oj d, edgeB ops j i = true → ops[j]? = some oj → oj.dst = some d → a.tmps.getD d undef = tm0.getD d undef) → o.guard = none ∧ StepR P S val x L i o a w) :
    (Code.region id ops true).wpIn F n P Q ⟨tm0, df⟩ w := by
  refine wpIn_region_inv hm (fun L a w => ∃ x, S x L w ∧ a.defers = df ∧ a.tmps.size = tm0.size ∧ (∀ t, ((List.range ops.size).all fun j => !((ops[j]?).bind (·.dst) == some t)) = true → a.tmps.getD t undef = tm0.getD t undef) ∧ (∀ j o d, ops[j]? = some o → o.dst = some d → L.getD j true = true → a.tmps.getD d undef = val x j) ∧ (∀ j o d, ops[j]? = some o → o.dst = some d → L.getD j true = false → a.tmps.getD d undef = tm0.getD d undef)) (back_of hback) ?_ ?_ ?_
  · refine ⟨x0, h0, rfl, rfl, fun _ _ => rfl, fun j o d ho _ hl => ?_, fun _ _ _ _ _ _ => rfl⟩
    have hj : j < ops.size := (Array.getElem?_eq_some_iff.1 ho).1
    simp [Array.getD_eq_getD_getElem?, hj] at hl
  · intro L a w ⟨x, hS, hdf, hsz, hlow, hval, _⟩ hall
    obtain ⟨tm, df'⟩ := a
    simp only at hdf hsz
    subst hdf
    exact hdone x L tm w hall hS hsz hlow (fun j o d ho hd => hval j o d ho hd (hall j (Array.getElem?_eq_some_iff.1 ho).1))
  · intro L a w i o hC ⟨x, hS, hdf, hsz, hlow, hval, hold⟩ ho hl hd
    obtain ⟨hg, hst⟩ := hstep x L a w i o hC.1 ho hl (fun j he => dep_of ho hd he) (fun j he => hC.no he hl) hS hlow (fun j oj d he hoj hdj => hval j oj d hoj hdj (dep_of ho hd he)) (fun j oj d he hoj hdj => hold j oj d hoj hdj (hC.no he hl))
    have next : ∀ x' w', (∀ j, L.getD j true = true → val x' j = val x j) → S x' (L.setIfInBounds i true) w' → S x' (L.setIfInBounds i true) w' ∧ (a.put o.dst (val x' i)).defers = df ∧ (a.put o.dst (val x' i)).tmps.size = tm0.size ∧ (∀ t, ((List.range ops.size).all fun j => !((ops[j]?).bind (·.dst) == some t)) = true → (a.put o.dst (val x' i)).tmps.getD t undef = tm0.getD t undef) ∧ (∀ j o' d, ops[j]? = some o' → o'.dst = some d → (L.setIfInBounds i true).getD j true = true → (a.put o.dst (val x' i)).tmps.getD d undef = val x' j) ∧ (∀ j o' d, ops[j]? = some o' → o'.dst = some d → (L.setIfInBounds i true).getD j true = false → (a.put o.dst (val x' i)).tmps.getD d undef = tm0.getD d undef) := by
      intro x' w' hag hS'
      cases hod : o.dst with
      | none =>
        refine ⟨hS', hdf, hsz, hlow, fun j o' d ho' hd' hl' => ?_, fun j o' d ho' hd' hl' => ?_⟩
        · have hne : i ≠ j := fun e => by subst e; rw [ho] at ho'; injection ho' with ho'; subst ho'; rw [hod] at hd'; cases hd'
          rw [getD_set_true, if_neg (fun h => hne h.1)] at hl'
          rw [hag j hl']; exact hval j o' d ho' hd' hl'
        · have hne : i ≠ j := fun e => by subst e; rw [ho] at ho'; injection ho' with ho'; subst ho'; rw [hod] at hd'; cases hd'
          rw [getD_set_true, if_neg (fun h => hne h.1)] at hl'
          exact hold j o' d ho' hd' hl'
      | some d0 =>
        have hput : ∀ t, (a.put (some d0) (val x' i)).tmps.getD t undef = if d0 = t ∧ t < a.tmps.size then val x' i else a.tmps.getD t undef := by
          intro t
          unfold Act.put
          simp only [Array.getD_eq_getD_getElem?, Array.getElem?_setIfInBounds]
          by_cases e : d0 = t
          · subst e
            by_cases h : d0 < a.tmps.size
            · simp [h]
            · simp [h]
          · simp [e]
        refine ⟨hS', hdf, by simp [Act.put, hsz], fun t ht => ?_, fun j o' d ho' hd' hl' => ?_, fun j o' d ho' hd' hl' => ?_⟩
        · rw [hput, if_neg (fun h => ?_)]
          · exact hlow t ht
          · have := List.all_eq_true.1 ht i (List.mem_range.2 (Array.getElem?_eq_some_iff.1 ho).1)
            rw [ho] at this
            simp [hod, h.1] at this
        · rw [hput]
          by_cases e : d0 = d
          · subst e
            have hij := ownDst_inj hown ho hod ho' hd'
            subst hij
            rw [if_pos ⟨rfl, by rw [hsz]; exact ownDst_lt hown ho hod⟩]
          · rw [if_neg (fun h => e h.1)]
            have hne : i ≠ j := fun e' => by subst e'; rw [ho] at ho'; injection ho' with ho'; subst ho'; rw [hod] at hd'; injection hd' with hd'; exact e hd'
            rw [getD_set_true, if_neg (fun h => hne h.1)] at hl'
            rw [hag j hl']; exact hval j o' d ho' hd' hl'
        · have hli : i ≠ j := fun e => by
            subst e
            have hC1 : i < L.size := by rw [hC.1]; exact (Array.getElem?_eq_some_iff.1 ho).1
            rw [getD_set_true, if_pos ⟨rfl, hC1⟩] at hl'; cases hl'
          rw [getD_set_true, if_neg (fun h => hli h.1)] at hl'
          have hdd : d0 ≠ d := fun e => by subst e; exact hli (ownDst_inj hown ho' hd' ho hod)
          rw [hput, if_neg (fun h => hdd h.1)]
          exact hold j o' d ho' hd' hl'
    rcases hst with ⟨x', w', hag, hr, hS'⟩ | ⟨x', w', hag, hnd, hr, hS'⟩
    · exact wpOpIn_valueR hF hcalm ho hg hr ⟨x', next x' w' hag hS'⟩
    · refine wpOpIn_skipR hF hcalm ho hg hr ⟨x', ?_⟩
      have h := next x' w' hag hS'
      rw [hnd] at h ⊢
      exact h
end
end Go.Proofs.YtnkoncplfedffaaDoor

namespace Go.Proofs.YtnkoncplfedffaaDoor
section
variable {P : Program} {ops : Array Oper} {Q : Exit → Act → World → Prop}
theorem wpOp_valueW {i : Nat} {o : Oper} {a : Act} {w w' : World} {v : Value} {K : Act → World → Prop} (ho : ops[i]? = some o) (hg : Region.wanted o (yielded ops a.tmps) = true) (hr : (execOp a.eval o).run P w = .ok (.value v) w') (hK : K (a.put o.dst v) w') : wpOp P ops Q i K a w := by
  unfold wpOp
  rw [ho]
  simp only [hg, if_true]
  left
  unfold Oper.wp
  rw [hr]
  exact hK
theorem wpOp_enterW {i : Nat} {o : Oper} {a : Act} {w w' : World} {f : FuncId} {args : Array Value} {K : Act → World → Prop} (ho : ops[i]? = some o) (hg : Region.wanted o (yielded ops a.tmps) = true) (hr : (execOp a.eval o).run P w = .ok (.enter f args) w') (hK : Calls P f args w' fun e w'' => ∃ v, e = .returned v ∧ K (a.put o.dst v) w'') : wpOp P ops Q i K a w := by
  unfold wpOp
  rw [ho]
  simp only [hg, if_true]
  left
  unfold Oper.wp
  rw [hr]
  refine Calls.mono hK ?_
  rintro e w'' ⟨v, rfl, h⟩
  exact h
/-- What is not guarded is wanted. -/
theorem wanted_free {o : Oper} {y : Nat → Option Bool} (h : o.guard = none) : Region.wanted o y = true := by simp [Region.wanted, h]
/-- What is guarded is wanted where the guard has the value that it asks. -/
theorem wanted_guard {o og : Oper} {tm : Array Value} {g d : Nat} {b : Bool} (h : o.guard = some (g, b)) (hg : ops[g]? = some og) (hd : og.dst = some d) (hv : tm.getD d undef = .bool b) : Region.wanted o (yielded ops tm) = true := by
  have hy : yielded ops tm g = some b := by
    unfold yielded
    rw [hg, Option.bind_some, hd, Option.bind_some]
    rw [Array.getD_eq_getD_getElem?] at hv
    cases ht : tm[d]? with
    | none => rw [ht] at hv; simp [undef] at hv
    | some v => rw [ht, Option.getD_some] at hv; subst hv; rfl
  simp [Region.wanted, h, hy]
/-- A region all of whose operations yield one value each, in whatever order they come up. -/
theorem wp_region_detW {id : Nat} {tm0 : Array Value} {df : List Deferred} {w : World} (hm : P.follows .mixedOrders = true) (S : Array Bool → World → Prop) (val : Nat → Value) (hback : backB ops = true) (hown : ownDst ops tm0.size = true)
    (h0 : S (Array.replicate ops.size false) w.drew)
    (hdone : ∀ (L : Array Bool) (tm : Array Value) (w : World), (∀ i, i < ops.size → L.getD i true = true) → S L w → tm.size = tm0.size → (∀ t, ((List.range ops.size).all fun j => !((ops[j]?).bind (·.dst) == some t)) = true → tm.getD t undef = tm0.getD t undef) → (∀ j o d, ops[j]? = some o → o.dst = some d → tm.getD d undef = val j) → Q .normal ⟨tm, df⟩ w)
    (hstep : ∀ (L : Array Bool) (a : Act) (w : World) (i : Nat) (o : Oper), L.size = ops.size → ops[i]? = some o → L.getD i true = false → (∀ j, edgeB ops i j = true → L.getD j true = true) → (∀ j, edgeB ops j i = true → L.getD j true = false) → S L w → (∀ t, ((List.range ops.size).all fun j => !((ops[j]?).bind (·.dst) == some t)) = true → a.tmps.getD t undef = tm0.getD t undef) →
      (∀ j oj d, edgeB ops i j = true → ops[j]? = some oj → oj.dst = some d → a.tmps.getD d undef = val j) →
      (∀ j oj d, edgeB ops j i = true → ops[j]? = some oj → oj.dst = some d → a.tmps.getD d undef = tm0.getD d undef) → Region.wanted o (yielded ops a.tmps) = true ∧ StepTo P (S (L.setIfInBounds i true)) o a w (val i)) :
    (Code.region id ops true).wp P Q ⟨tm0, df⟩ w := by
  refine wp_region_inv hm (fun L a w => S L w ∧ a.defers = df ∧ a.tmps.size = tm0.size ∧ (∀ t, ((List.range ops.size).all fun j => !((ops[j]?).bind (·.dst) == some t)) = true → a.tmps.getD t undef = tm0.getD t undef) ∧ (∀ j o d, ops[j]? = some o → o.dst = some d → L.getD j true = true → a.tmps.getD d undef = val j) ∧ (∀ j o d, ops[j]? = some o → o.dst = some d → L.getD j true = false → a.tmps.getD d undef = tm0.getD d undef)) (back_of hback) ?_ ?_ ?_
  · refine ⟨h0, rfl, rfl, fun _ _ => rfl, fun j o d ho _ hl => ?_, fun _ _ _ _ _ _ => rfl⟩
    have hj : j < ops.size := (Array.getElem?_eq_some_iff.1 ho).1
    simp [Array.getD_eq_getD_getElem?, hj] at hl
  · intro L a w ⟨hS, hdf, hsz, hlow, hval, _⟩ hall
    obtain ⟨tm, df'⟩ := a
    simp only at hdf hsz
    subst hdf
    exact hdone L tm w hall hS hsz hlow (fun j o d ho hd => hval j o d ho hd (hall j (Array.getElem?_eq_some_iff.1 ho).1))
  · intro L a w i o hC ⟨hS, hdf, hsz, hlow, hval, hold⟩ ho hl hd
    obtain ⟨hg, hst⟩ := hstep L a w i o hC.1 ho hl (fun j he => dep_of ho hd he) (fun j he => hC.no he hl) hS hlow (fun j oj d he hoj hdj => hval j oj d hoj hdj (dep_of ho hd he)) (fun j oj d he hoj hdj => hold j oj d hoj hdj (hC.no he hl))
    have next : ∀ w', S (L.setIfInBounds i true) w' → S (L.setIfInBounds i true) w' ∧ (a.put o.dst (val i)).defers = df ∧ (a.put o.dst (val i)).tmps.size = tm0.size ∧ (∀ t, ((List.range ops.size).all fun j => !((ops[j]?).bind (·.dst) == some t)) = true → (a.put o.dst (val i)).tmps.getD t undef = tm0.getD t undef) ∧ (∀ j o' d, ops[j]? = some o' → o'.dst = some d → (L.setIfInBounds i true).getD j true = true → (a.put o.dst (val i)).tmps.getD d undef = val j) ∧ (∀ j o' d, ops[j]? = some o' → o'.dst = some d → (L.setIfInBounds i true).getD j true = false → (a.put o.dst (val i)).tmps.getD d undef = tm0.getD d undef) := by
      intro w' hS'
      cases hod : o.dst with
      | none =>
        refine ⟨hS', hdf, hsz, hlow, fun j o' d ho' hd' hl' => ?_, fun j o' d ho' hd' hl' => ?_⟩
        · have hne : i ≠ j := fun e => by subst e; rw [ho] at ho'; injection ho' with ho'; subst ho'; rw [hod] at hd'; cases hd'
          rw [getD_set_true, if_neg (fun h => hne h.1)] at hl'
          exact hval j o' d ho' hd' hl'
        · have hne : i ≠ j := fun e => by subst e; rw [ho] at ho'; injection ho' with ho'; subst ho'; rw [hod] at hd'; cases hd'
          rw [getD_set_true, if_neg (fun h => hne h.1)] at hl'
          exact hold j o' d ho' hd' hl'
      | some d0 =>
        have hput : ∀ t, (a.put (some d0) (val i)).tmps.getD t undef = if d0 = t ∧ t < a.tmps.size then val i else a.tmps.getD t undef := by
          intro t
          unfold Act.put
          simp only [Array.getD_eq_getD_getElem?, Array.getElem?_setIfInBounds]
          by_cases e : d0 = t
          · subst e
            by_cases h : d0 < a.tmps.size
            · simp [h]
            · simp [h]
          · simp [e]
        refine ⟨hS', hdf, by simp [Act.put, hsz], fun t ht => ?_, fun j o' d ho' hd' hl' => ?_, fun j o' d ho' hd' hl' => ?_⟩
        · rw [hput, if_neg (fun h => ?_)]
          · exact hlow t ht
          · have := List.all_eq_true.1 ht i (List.mem_range.2 (Array.getElem?_eq_some_iff.1 ho).1)
            rw [ho] at this
            simp [hod, h.1] at this
        · rw [hput]
          by_cases e : d0 = d
          · subst e
            have hij := ownDst_inj hown ho hod ho' hd'
            subst hij
            rw [if_pos ⟨rfl, by rw [hsz]; exact ownDst_lt hown ho hod⟩]
          · rw [if_neg (fun h => e h.1)]
            have hne : i ≠ j := fun e' => by subst e'; rw [ho] at ho'; injection ho' with ho'; subst ho'; rw [hod] at hd'; injection hd' with hd'; exact e hd'
            rw [getD_set_true, if_neg (fun h => hne h.1)] at hl'
            exact hval j o' d ho' hd' hl'
        · have hli : i ≠ j := fun e => by
            subst e
            have hC1 : i < L.size := by rw [hC.1]; exact (Array.getElem?_eq_some_iff.1 ho).1
            rw [getD_set_true, if_pos ⟨rfl, hC1⟩] at hl'; cases hl'
          rw [getD_set_true, if_neg (fun h => hli h.1)] at hl'
          have hdd : d0 ≠ d := fun e => by subst e; exact hli (ownDst_inj hown ho' hd' ho hod)
          rw [hput, if_neg (fun h => hdd h.1)]
          exact hold j o' d ho' hd' hl'
    rcases hst with ⟨w', hr, hS'⟩ | ⟨f, args, hr, hc⟩
    · exact wpOp_valueW ho hg hr (next w' hS')
    · refine wpOp_enterW ho hg hr (hc.mono ?_)
      rintro e w' ⟨rfl, hS'⟩
      exact ⟨_, rfl, next w' hS'⟩
end
end Go.Proofs.YtnkoncplfedffaaDoor

namespace Go.Proofs.YtnkoncplfedffaaDoor
section
variable {P : Program} {ops : Array Oper} {Q : Exit → Act → World → Prop}
theorem all_of_readyB {listed : Array Bool} (hs : listed.size = ops.size) (hback : ∀ (i : Nat) (o : Oper), ops[i]? = some o → ∀ e ∈ o.after, Region.binds .any e = true → e.on < i) (hr : Region.ready .any ops listed = []) : ∀ i, i < ops.size → listed.getD i true = true := by
  intro i
  induction i using Nat.strongRecOn with
  | _ i ih =>
    intro hi
    cases hl : listed.getD i true with
    | true => rfl
    | false =>
      have : i ∈ Region.ready .any ops listed := mem_ready.2 ⟨hl, ops[i], Array.getElem?_eq_getElem hi, fun e he hbd => by
        have h1 := hback i _ (Array.getElem?_eq_getElem hi) e he hbd
        have h2 := ih e.on h1 (by omega)
        have h3 : e.on < listed.size := by omega
        simp only [Array.getD_eq_getD_getElem?, Array.getElem?_eq_getElem h3, Option.getD_some] at h2 ⊢
        exact h2⟩
      rw [hr] at this; cases this
theorem wpAny_invB (Inv : Array Bool → Act → World → Prop) (hback : ∀ (i : Nat) (o : Oper), ops[i]? = some o → ∀ e ∈ o.after, Region.binds .any e = true → e.on < i)
    (hdone : ∀ listed a w, Inv listed a w → (∀ i, i < ops.size → listed.getD i true = true) → Q .normal a w)
    (hstep : ∀ listed a w (i : Nat) (o : Oper), Closed ops listed → Inv listed a w → ops[i]? = some o → listed.getD i true = false → (∀ e ∈ o.after, Region.binds .any e = true → listed.getD e.on false = true) → wpOp P ops Q i (fun a' w' => Inv (listed.setIfInBounds i true) a' w') a w) :
    ∀ (fuel : Nat) (listed : Array Bool) (a : Act) (w : World), Closed ops listed → unl ops listed ≤ fuel → Inv listed a w → wpAny P .any ops Q fuel listed a w
  | 0, listed, a, w, hc, hf, hi => by
    have hr : Region.ready .any ops listed = [] := by
      apply List.eq_nil_iff_forall_not_mem.2
      intro i hm
      obtain ⟨hl, o, ho, _⟩ := mem_ready.1 hm
      have hpos : 0 < unl ops listed := List.countP_pos_iff.2 ⟨i, List.mem_range.2 (Array.getElem?_eq_some_iff.1 ho).1, by rw [hl]; rfl⟩
      omega
    exact ⟨hr, hdone listed a w hi (all_of_readyB hc.1 hback hr)⟩
  | fuel + 1, listed, a, w, hc, hf, hi => by
    refine ⟨fun hr => hdone listed a w hi (all_of_readyB hc.1 hback hr), fun i hm => ?_⟩
    obtain ⟨hl, o, ho, hall⟩ := mem_ready.1 hm
    have hlt : i < ops.size := (Array.getElem?_eq_some_iff.1 ho).1
    refine wpOp_mono (fun a' w' hi' => wpAny_invB Inv hback hdone hstep fuel _ a' w' (hc.step hm) ?_ hi') (hstep listed a w i o hc hi ho hl hall)
    have : unl ops (listed.setIfInBounds i true) < unl ops listed := by
      refine countP_lt (i := i) (fun x hx => ?_) (by rw [hl]; rfl) ?_ _ (List.mem_range.2 hlt)
      · rw [getD_set_true] at hx
        by_cases h : i = x ∧ x < listed.size
        · rw [if_pos h] at hx; cases hx
        · rwa [if_neg h] at hx
      · rw [getD_set_true, if_pos ⟨rfl, by rw [hc.1]; exact hlt⟩]; rfl
    omega
theorem wp_region_invB {id : Nat} {a : Act} {w : World} (hm : P.follows .mixedOrders = true) (Inv : Array Bool → Act → World → Prop) (hback : ∀ (i : Nat) (o : Oper), ops[i]? = some o → ∀ e ∈ o.after, Region.binds .any e = true → e.on < i)
    (h0 : Inv (Array.replicate ops.size false) a w.drew)
    (hdone : ∀ listed a w, Inv listed a w → (∀ i, i < ops.size → listed.getD i true = true) → Q .normal a w)
    (hstep : ∀ listed a w (i : Nat) (o : Oper), Closed ops listed → Inv listed a w → ops[i]? = some o → listed.getD i true = false → (∀ e ∈ o.after, Region.binds .any e = true → listed.getD e.on false = true) → wpOp P ops Q i (fun a' w' => Inv (listed.setIfInBounds i true) a' w') a w) :
    (Code.region id ops true).wp P Q a w :=
  wp_region_any hm (wpAny_invB Inv hback hdone hstep _ _ _ _ Closed.start (Nat.le_trans List.countP_le_length (by simp)) h0)
def backBB (ops : Array Oper) : Bool := (List.range ops.size).all fun i => match ops[i]? with
  | some o => o.after.all fun e => (!Region.binds .any e || decide (e.on < i))
  | none => true
theorem back_ofB (h : backBB ops = true) : ∀ (i : Nat) (o : Oper), ops[i]? = some o → ∀ e ∈ o.after, Region.binds .any e = true → e.on < i := by
  intro i o ho e he hbd
  unfold backBB at h
  have h1 := List.all_eq_true.1 h i (List.mem_range.2 (Array.getElem?_eq_some_iff.1 ho).1)
  rw [ho] at h1
  simp only at h1
  rw [Array.all_eq_true_iff_forall_mem] at h1
  have h2 := h1 e he
  rw [hbd] at h2
  simpa using h2
theorem wpOp_skipY {i : Nat} {o : Oper} {a : Act} {w w' : World} {K : Act → World → Prop} (ho : ops[i]? = some o) (hg : Region.wanted o (yielded ops a.tmps) = true) (hr : (execOp a.eval o).run P w = .ok .skip w') (hK : K (a.put o.dst undef) w') : wpOp P ops Q i K a w := by
  unfold wpOp
  rw [ho]
  simp only [hg, if_true]
  left
  unfold Oper.wp
  rw [hr]
  exact hK
def StepY (P : Program) (K : World → Prop) (o : Oper) (a : Act) (w : World) (v : Value) : Prop :=
  StepTo P K o a w v ∨ ∃ w', o.dst = none ∧ (execOp a.eval o).run P w = .ok .skip w' ∧ K w'
/-- A region with guards that are wanted, in whatever order: each operation yields one value, or stores. -/
theorem wp_region_detY {id : Nat} {tm0 : Array Value} {df : List Deferred} {w : World} (hm : P.follows .mixedOrders = true) (S : Array Bool → World → Prop) (val : Nat → Value) (hback : backBB ops = true) (hown : ownDst ops tm0.size = true)
    (h0 : S (Array.replicate ops.size false) w.drew)
    (hdone : ∀ (L : Array Bool) (tm : Array Value) (w : World), (∀ i, i < ops.size → L.getD i true = true) → S L w → tm.size = tm0.size → (∀ t, ((List.range ops.size).all fun j => !((ops[j]?).bind (·.dst) == some t)) = true → tm.getD t undef = tm0.getD t undef) → (∀ j o d, ops[j]? = some o → o.dst = some d → tm.getD d undef = val j) → Q .normal ⟨tm, df⟩ w)
    (hstep : ∀ (L : Array Bool) (a : Act) (w : World) (i : Nat) (o : Oper), L.size = ops.size → ops[i]? = some o → L.getD i true = false → (∀ j, edgeB ops i j = true → L.getD j true = true) → (∀ j, edgeB ops j i = true → L.getD j true = false) → S L w → (∀ t, ((List.range ops.size).all fun j => !((ops[j]?).bind (·.dst) == some t)) = true → a.tmps.getD t undef = tm0.getD t undef) →
      (∀ j oj d, edgeB ops i j = true → ops[j]? = some oj → oj.dst = some d → a.tmps.getD d undef = val j) →
      (∀ j oj d, edgeB ops j i = true → ops[j]? = some oj → oj.dst = some d → a.tmps.getD d undef = tm0.getD d undef) → Region.wanted o (yielded ops a.tmps) = true ∧ StepY P (S (L.setIfInBounds i true)) o a w (val i)) :
    (Code.region id ops true).wp P Q ⟨tm0, df⟩ w := by
  refine wp_region_invB hm (fun L a w => S L w ∧ a.defers = df ∧ a.tmps.size = tm0.size ∧ (∀ t, ((List.range ops.size).all fun j => !((ops[j]?).bind (·.dst) == some t)) = true → a.tmps.getD t undef = tm0.getD t undef) ∧ (∀ j o d, ops[j]? = some o → o.dst = some d → L.getD j true = true → a.tmps.getD d undef = val j) ∧ (∀ j o d, ops[j]? = some o → o.dst = some d → L.getD j true = false → a.tmps.getD d undef = tm0.getD d undef)) (back_ofB hback) ?_ ?_ ?_
  · refine ⟨h0, rfl, rfl, fun _ _ => rfl, fun j o d ho _ hl => ?_, fun _ _ _ _ _ _ => rfl⟩
    have hj : j < ops.size := (Array.getElem?_eq_some_iff.1 ho).1
    simp [Array.getD_eq_getD_getElem?, hj] at hl
  · intro L a w ⟨hS, hdf, hsz, hlow, hval, _⟩ hall
    obtain ⟨tm, df'⟩ := a
    simp only at hdf hsz
    subst hdf
    exact hdone L tm w hall hS hsz hlow (fun j o d ho hd => hval j o d ho hd (hall j (Array.getElem?_eq_some_iff.1 ho).1))
  · intro L a w i o hC ⟨hS, hdf, hsz, hlow, hval, hold⟩ ho hl hd
    obtain ⟨hg, hst⟩ := hstep L a w i o hC.1 ho hl (fun j he => dep_of ho hd he) (fun j he => hC.no he hl) hS hlow (fun j oj d he hoj hdj => hval j oj d hoj hdj (dep_of ho hd he)) (fun j oj d he hoj hdj => hold j oj d hoj hdj (hC.no he hl))
    have next : ∀ w', S (L.setIfInBounds i true) w' → S (L.setIfInBounds i true) w' ∧ (a.put o.dst (val i)).defers = df ∧ (a.put o.dst (val i)).tmps.size = tm0.size ∧ (∀ t, ((List.range ops.size).all fun j => !((ops[j]?).bind (·.dst) == some t)) = true → (a.put o.dst (val i)).tmps.getD t undef = tm0.getD t undef) ∧ (∀ j o' d, ops[j]? = some o' → o'.dst = some d → (L.setIfInBounds i true).getD j true = true → (a.put o.dst (val i)).tmps.getD d undef = val j) ∧ (∀ j o' d, ops[j]? = some o' → o'.dst = some d → (L.setIfInBounds i true).getD j true = false → (a.put o.dst (val i)).tmps.getD d undef = tm0.getD d undef) := by
      intro w' hS'
      cases hod : o.dst with
      | none =>
        refine ⟨hS', hdf, hsz, hlow, fun j o' d ho' hd' hl' => ?_, fun j o' d ho' hd' hl' => ?_⟩
        · have hne : i ≠ j := fun e => by subst e; rw [ho] at ho'; injection ho' with ho'; subst ho'; rw [hod] at hd'; cases hd'
          rw [getD_set_true, if_neg (fun h => hne h.1)] at hl'
          exact hval j o' d ho' hd' hl'
        · have hne : i ≠ j := fun e => by subst e; rw [ho] at ho'; injection ho' with ho'; subst ho'; rw [hod] at hd'; cases hd'
          rw [getD_set_true, if_neg (fun h => hne h.1)] at hl'
          exact hold j o' d ho' hd' hl'
      | some d0 =>
        have hput : ∀ t, (a.put (some d0) (val i)).tmps.getD t undef = if d0 = t ∧ t < a.tmps.size then val i else a.tmps.getD t undef := by
          intro t
          unfold Act.put
          simp only [Array.getD_eq_getD_getElem?, Array.getElem?_setIfInBounds]
          by_cases e : d0 = t
          · subst e
            by_cases h : d0 < a.tmps.size
            · simp [h]
            · simp [h]
          · simp [e]
        refine ⟨hS', hdf, by simp [Act.put, hsz], fun t ht => ?_, fun j o' d ho' hd' hl' => ?_, fun j o' d ho' hd' hl' => ?_⟩
        · rw [hput, if_neg (fun h => ?_)]
          · exact hlow t ht
          · have := List.all_eq_true.1 ht i (List.mem_range.2 (Array.getElem?_eq_some_iff.1 ho).1)
            rw [ho] at this
            simp [hod, h.1] at this
        · rw [hput]
          by_cases e : d0 = d
          · subst e
            have hij := ownDst_inj hown ho hod ho' hd'
            subst hij
            rw [if_pos ⟨rfl, by rw [hsz]; exact ownDst_lt hown ho hod⟩]
          · rw [if_neg (fun h => e h.1)]
            have hne : i ≠ j := fun e' => by subst e'; rw [ho] at ho'; injection ho' with ho'; subst ho'; rw [hod] at hd'; injection hd' with hd'; exact e hd'
            rw [getD_set_true, if_neg (fun h => hne h.1)] at hl'
            exact hval j o' d ho' hd' hl'
        · have hli : i ≠ j := fun e => by
            subst e
            have hC1 : i < L.size := by rw [hC.1]; exact (Array.getElem?_eq_some_iff.1 ho).1
            rw [getD_set_true, if_pos ⟨rfl, hC1⟩] at hl'; cases hl'
          rw [getD_set_true, if_neg (fun h => hli h.1)] at hl'
          have hdd : d0 ≠ d := fun e => by subst e; exact hli (ownDst_inj hown ho' hd' ho hod)
          rw [hput, if_neg (fun h => hdd h.1)]
          exact hold j o' d ho' hd' hl'
    rcases hst with (⟨w', hr, hS'⟩ | ⟨f, args, hr, hc⟩) | ⟨w', hnd, hr, hS'⟩
    · exact wpOp_valueW ho hg hr (next w' hS')
    · refine wpOp_enterW ho hg hr (hc.mono ?_)
      rintro e w' ⟨rfl, hS'⟩
      exact ⟨_, rfl, next w' hS'⟩
    · refine wpOp_skipY ho hg hr ?_
      have h := next w' hS'
      rw [hnd] at h ⊢
      exact h
end
end Go.Proofs.YtnkoncplfedffaaDoor

namespace Go.Proofs.YtnkoncplfedffaaDoor
section
variable {F : Fence} {n : Nat} {P : Program} {ops : Array Oper} {Q : Exit → Act → World → Prop}
/-- What is guarded is not wanted where the guard has the other value. -/
theorem wanted_other {o og : Oper} {tm : Array Value} {g d : Nat} {b : Bool} (h : o.guard = some (g, b)) (hg : ops[g]? = some og) (hd : og.dst = some d) (hv : tm.getD d undef = .bool (!b)) : Region.wanted o (yielded ops tm) = false := by
  have hy : yielded ops tm g = some (!b) := by
    unfold yielded
    rw [hg, Option.bind_some, hd, Option.bind_some]
    rw [Array.getD_eq_getD_getElem?] at hv
    cases ht : tm[d]? with
    | none => rw [ht] at hv; simp [undef] at hv
    | some v => rw [ht, Option.getD_some] at hv; subst hv; rfl
  cases b <;> simp [Region.wanted, h, hy]
/-- ..or where the guard was not wanted itself. -/
theorem wanted_undef {o og : Oper} {tm : Array Value} {g d : Nat} {b : Bool} (h : o.guard = some (g, b)) (hg : ops[g]? = some og) (hd : og.dst = some d) (hv : tm.getD d undef = undef) : Region.wanted o (yielded ops tm) = false := by
  have hy : yielded ops tm g = none := by
    unfold yielded
    rw [hg, Option.bind_some, hd, Option.bind_some]
    rw [Array.getD_eq_getD_getElem?] at hv
    cases ht : tm[d]? with
    | none => rfl
    | some v => rw [ht, Option.getD_some] at hv; subst hv; rfl
  simp [Region.wanted, h, hy]
theorem wpOpIn_valueX (hF : ∀ f, F.fn f) (hc : calmB ops = true) {i : Nat} {o : Oper} {a : Act} {w w' : World} {v : Value} {K : Act → World → Prop} (ho : ops[i]? = some o) (hg : Region.wanted o (yielded ops a.tmps) = true) (hr : (execOp a.eval o).run P w = .ok (.value v) w') (hK : K (a.put o.dst v) w') : wpOpIn F n P ops Q i K a w := by
  refine wpOpIn_step ho fun K' hKK => ?_
  rw [if_pos hg]
  refine ⟨fun f _ => hF f, ?_⟩
  rw [semAt_calm hc ho, hr]
  exact hKK _ _ hK
theorem wpOpIn_skipX (hF : ∀ f, F.fn f) (hc : calmB ops = true) {i : Nat} {o : Oper} {a : Act} {w w' : World} {K : Act → World → Prop} (ho : ops[i]? = some o) (hg : Region.wanted o (yielded ops a.tmps) = true) (hr : (execOp a.eval o).run P w = .ok .skip w') (hK : K (a.put o.dst undef) w') : wpOpIn F n P ops Q i K a w := by
  refine wpOpIn_step ho fun K' hKK => ?_
  rw [if_pos hg]
  refine ⟨fun f _ => hF f, ?_⟩
  rw [semAt_calm hc ho, hr]
  exact hKK _ _ hK
theorem wpOpIn_offX (hF : ∀ f, F.fn f) {i : Nat} {o : Oper} {a : Act} {w : World} {K : Act → World → Prop} (ho : ops[i]? = some o) (hg : Region.wanted o (yielded ops a.tmps) = false) (hK : K (a.put o.dst undef) w) : wpOpIn F n P ops Q i K a w := by
  refine wpOpIn_step ho fun K' hKK => ?_
  rw [if_neg (by rw [hg]; decide)]
  exact ⟨fun f _ => hF f, hKK _ _ hK⟩
/-- A step: an operation that is wanted, or one that is not. -/
def StepX {γ : Type} (P : Program) (ops : Array Oper) (S : γ → Array Bool → World → Prop) (val : γ → Nat → Value) (x : γ) (L : Array Bool) (i : Nat) (o : Oper) (a : Act) (w : World) : Prop :=
  (Region.wanted o (yielded ops a.tmps) = true ∧ StepR P S val x L i o a w) ∨
  (Region.wanted o (yielded ops a.tmps) = false ∧ val x i = undef ∧ S x (L.setIfInBounds i true) w)
theorem wpAnyIn_invB (Inv : Array Bool → Act → World → Prop) (hback : ∀ (i : Nat) (o : Oper), ops[i]? = some o → ∀ e ∈ o.after, Region.binds .any e = true → e.on < i)
    (hdone : ∀ listed a w, Inv listed a w → (∀ i, i < ops.size → listed.getD i true = true) → Q .normal a w)
    (hstep : ∀ listed a w (i : Nat) (o : Oper), Closed ops listed → Inv listed a w → ops[i]? = some o → listed.getD i true = false → (∀ e ∈ o.after, Region.binds .any e = true → listed.getD e.on false = true) → wpOpIn F n P ops Q i (fun a' w' => Inv (listed.setIfInBounds i true) a' w') a w) :
    ∀ (fuel : Nat) (listed : Array Bool) (a : Act) (w : World), Closed ops listed → unl ops listed ≤ fuel → Inv listed a w → wpAnyIn F n P .any ops Q fuel listed a w
  | 0, listed, a, w, hc, hf, hi => by
    have hr : Region.ready .any ops listed = [] := by
      apply List.eq_nil_iff_forall_not_mem.2
      intro i hm
      obtain ⟨hl, o, ho, _⟩ := mem_ready.1 hm
      have hpos : 0 < unl ops listed := List.countP_pos_iff.2 ⟨i, List.mem_range.2 (Array.getElem?_eq_some_iff.1 ho).1, by rw [hl]; rfl⟩
      omega
    exact ⟨hr, hdone listed a w hi (all_of_readyB hc.1 hback hr)⟩
  | fuel + 1, listed, a, w, hc, hf, hi => by
    refine ⟨fun hr => hdone listed a w hi (all_of_readyB hc.1 hback hr), fun i hm => ?_⟩
    obtain ⟨hl, o, ho, hall⟩ := mem_ready.1 hm
    have hlt : i < ops.size := (Array.getElem?_eq_some_iff.1 ho).1
    refine wpOpIn_mono (fun a' w' hi' => wpAnyIn_invB Inv hback hdone hstep fuel _ a' w' (hc.step hm) ?_ hi') (hstep listed a w i o hc hi ho hl hall)
    have : unl ops (listed.setIfInBounds i true) < unl ops listed := by
      refine countP_lt (i := i) (fun x hx => ?_) (by rw [hl]; rfl) ?_ _ (List.mem_range.2 hlt)
      · rw [getD_set_true] at hx
        by_cases h : i = x ∧ x < listed.size
        · rw [if_pos h] at hx; cases hx
        · rwa [if_neg h] at hx
      · rw [getD_set_true, if_pos ⟨rfl, by rw [hc.1]; exact hlt⟩]; rfl
    omega
theorem wpIn_region_invB {id : Nat} {a : Act} {w : World} (hm : P.follows .mixedOrders = true) (Inv : Array Bool → Act → World → Prop) (hback : ∀ (i : Nat) (o : Oper), ops[i]? = some o → ∀ e ∈ o.after, Region.binds .any e = true → e.on < i)
    (h0 : Inv (Array.replicate ops.size false) a w.drew)
    (hdone : ∀ listed a w, Inv listed a w → (∀ i, i < ops.size → listed.getD i true = true) → Q .normal a w)
    (hstep : ∀ listed a w (i : Nat) (o : Oper), Closed ops listed → Inv listed a w → ops[i]? = some o → listed.getD i true = false → (∀ e ∈ o.after, Region.binds .any e = true → listed.getD e.on false = true) → wpOpIn F n P ops Q i (fun a' w' => Inv (listed.setIfInBounds i true) a' w') a w) :
    (Code.region id ops true).wpIn F n P Q a w :=
  wpIn_region_any hm (wpAnyIn_invB Inv hback hdone hstep _ _ _ _ Closed.start (Nat.le_trans List.countP_le_length (by simp)) h0)
theorem wpIn_region_detX {γ : Type} (hF : ∀ f, F.fn f) (hcalm : calmB ops = true) {id : Nat} {tm0 : Array Value} {df : List Deferred} {w : World} (hm : P.follows .mixedOrders = true) (S : γ → Array Bool → World → Prop) (val : γ → Nat → Value) (x0 : γ) (hback : backBB ops = true) (hown : ownDst ops tm0.size = true)
    (h0 : S x0 (Array.replicate ops.size false) w.drew)
    (hdone : ∀ (x : γ) (L : Array Bool) (tm : Array Value) (w : World), (∀ i, i < ops.size → L.getD i true = true) → S x L w → tm.size = tm0.size → (∀ t, ((List.range ops.size).all fun j => !((ops[j]?).bind (·.dst) == some t)) = true → tm.getD t undef = tm0.getD t undef) → (∀ j o d, ops[j]? = some o → o.dst = some d → tm.getD d undef = val x j) → Q .normal ⟨tm, df⟩ w)
    (hstep : ∀ (x : γ) (L : Array Bool) (a : Act) (w : World) (i : Nat) (o : Oper), L.size = ops.size → ops[i]? = some o → L.getD i true = false → (∀ j, edgeB ops i j = true → L.getD j true = true) → (∀ j, edgeB ops j i = true → L.getD j true = false) → S x L w → (∀ t, ((List.range ops.size).all fun j => !((ops[j]?).bind (·.dst) == some t)) = true → a.tmps.getD t undef = tm0.getD t undef) →
      (∀ j oj d, edgeB ops i j = true → ops[j]? = some oj → oj.dst = some d → a.tmps.getD d undef = val x j) →
      (∀ j oj d, edgeB ops j i = true → ops[j]? = some oj → oj.dst = some d → a.tmps.getD d undef = tm0.getD d undef) → StepX P ops S val x L i o a w) :
    (Code.region id ops true).wpIn F n P Q ⟨tm0, df⟩ w := by
  refine wpIn_region_invB hm (fun L a w => ∃ x, S x L w ∧ a.defers = df ∧ a.tmps.size = tm0.size ∧ (∀ t, ((List.range ops.size).all fun j => !((ops[j]?).bind (·.dst) == some t)) = true → a.tmps.getD t undef = tm0.getD t undef) ∧ (∀ j o d, ops[j]? = some o → o.dst = some d → L.getD j true = true → a.tmps.getD d undef = val x j) ∧ (∀ j o d, ops[j]? = some o → o.dst = some d → L.getD j true = false → a.tmps.getD d undef = tm0.getD d undef)) (back_ofB hback) ?_ ?_ ?_
  · refine ⟨x0, h0, rfl, rfl, fun _ _ => rfl, fun j o d ho _ hl => ?_, fun _ _ _ _ _ _ => rfl⟩
    have hj : j < ops.size := (Array.getElem?_eq_some_iff.1 ho).1
    simp [Array.getD_eq_getD_getElem?, hj] at hl
  · intro L a w ⟨x, hS, hdf, hsz, hlow, hval, _⟩ hall
    obtain ⟨tm, df'⟩ := a
    simp only at hdf hsz
    subst hdf
    exact hdone x L tm w hall hS hsz hlow (fun j o d ho hd => hval j o d ho hd (hall j (Array.getElem?_eq_some_iff.1 ho).1))
  · intro L a w i o hC ⟨x, hS, hdf, hsz, hlow, hval, hold⟩ ho hl hd
    have hst := hstep x L a w i o hC.1 ho hl (fun j he => dep_of ho hd he) (fun j he => hC.no he hl) hS hlow (fun j oj d he hoj hdj => hval j oj d hoj hdj (dep_of ho hd he)) (fun j oj d he hoj hdj => hold j oj d hoj hdj (hC.no he hl))
    have next : ∀ x' w', (∀ j, L.getD j true = true → val x' j = val x j) → S x' (L.setIfInBounds i true) w' → S x' (L.setIfInBounds i true) w' ∧ (a.put o.dst (val x' i)).defers = df ∧ (a.put o.dst (val x' i)).tmps.size = tm0.size ∧ (∀ t, ((List.range ops.size).all fun j => !((ops[j]?).bind (·.dst) == some t)) = true → (a.put o.dst (val x' i)).tmps.getD t undef = tm0.getD t undef) ∧ (∀ j o' d, ops[j]? = some o' → o'.dst = some d → (L.setIfInBounds i true).getD j true = true → (a.put o.dst (val x' i)).tmps.getD d undef = val x' j) ∧ (∀ j o' d, ops[j]? = some o' → o'.dst = some d → (L.setIfInBounds i true).getD j true = false → (a.put o.dst (val x' i)).tmps.getD d undef = tm0.getD d undef) := by
      intro x' w' hag hS'
      cases hod : o.dst with
      | none =>
        refine ⟨hS', hdf, hsz, hlow, fun j o' d ho' hd' hl' => ?_, fun j o' d ho' hd' hl' => ?_⟩
        · have hne : i ≠ j := fun e => by subst e; rw [ho] at ho'; injection ho' with ho'; subst ho'; rw [hod] at hd'; cases hd'
          rw [getD_set_true, if_neg (fun h => hne h.1)] at hl'
          rw [hag j hl']; exact hval j o' d ho' hd' hl'
        · have hne : i ≠ j := fun e => by subst e; rw [ho] at ho'; injection ho' with ho'; subst ho'; rw [hod] at hd'; cases hd'
          rw [getD_set_true, if_neg (fun h => hne h.1)] at hl'
          exact hold j o' d ho' hd' hl'
      | some d0 =>
        have hput : ∀ t, (a.put (some d0) (val x' i)).tmps.getD t undef = if d0 = t ∧ t < a.tmps.size then val x' i else a.tmps.getD t undef := by
          intro t
          unfold Act.put
          simp only [Array.getD_eq_getD_getElem?, Array.getElem?_setIfInBounds]
          by_cases e : d0 = t
          · subst e
            by_cases h : d0 < a.tmps.size
            · simp [h]
            · simp [h]
          · simp [e]
        refine ⟨hS', hdf, by simp [Act.put, hsz], fun t ht => ?_, fun j o' d ho' hd' hl' => ?_, fun j o' d ho' hd' hl' => ?_⟩
        · rw [hput, if_neg (fun h => ?_)]
          · exact hlow t ht
          · have := List.all_eq_true.1 ht i (List.mem_range.2 (Array.getElem?_eq_some_iff.1 ho).1)
            rw [ho] at this
            simp [hod, h.1] at this
        · rw [hput]
          by_cases e : d0 = d
          · subst e
            have hij := ownDst_inj hown ho hod ho' hd'
            subst hij
            rw [if_pos ⟨rfl, by rw [hsz]; exact ownDst_lt hown ho hod⟩]
          · rw [if_neg (fun h => e h.1)]
            have hne : i ≠ j := fun e' => by subst e'; rw [ho] at ho'; injection ho' with ho'; subst ho'; rw [hod] at hd'; injection hd' with hd'; exact e hd'
            rw [getD_set_true, if_neg (fun h => hne h.1)] at hl'
            rw [hag j hl']; exact hval j o' d ho' hd' hl'
        · have hli : i ≠ j := fun e => by
            subst e
            have hC1 : i < L.size := by rw [hC.1]; exact (Array.getElem?_eq_some_iff.1 ho).1
            rw [getD_set_true, if_pos ⟨rfl, hC1⟩] at hl'; cases hl'
          rw [getD_set_true, if_neg (fun h => hli h.1)] at hl'
          have hdd : d0 ≠ d := fun e => by subst e; exact hli (ownDst_inj hown ho' hd' ho hod)
          rw [hput, if_neg (fun h => hdd h.1)]
          exact hold j o' d ho' hd' hl'
    rcases hst with ⟨hg, ⟨x', w', hag, hr, hS'⟩ | ⟨x', w', hag, hnd, hr, hS'⟩⟩ | ⟨hg, hv, hS'⟩
    · exact wpOpIn_valueX hF hcalm ho hg hr ⟨x', next x' w' hag hS'⟩
    · refine wpOpIn_skipX hF hcalm ho hg hr ⟨x', ?_⟩
      have h := next x' w' hag hS'
      rw [hnd] at h ⊢
      exact h
    · refine wpOpIn_offX hF ho hg ⟨x, ?_⟩
      have h := next x w (fun _ _ => rfl) hS'
      rw [hv] at h
      exact h
end
end Go.Proofs.YtnkoncplfedffaaDoor

namespace Go.Proofs.YtnkoncplfedffaaDoor
open Go.RowKit
theorem plain_bad {js : List J} {j : J} (hj : j ∈ js) (h : j.r ≠ 0) : plain0 js = false := by
  unfold plain0; rw [List.all_eq_false]; exact ⟨j, hj, by simpa using h⟩
theorem plain_step {js : List J} {k : Nat} (h : ∀ i (hi : i < js.length), i < k → js[i].r = 0) (hk : k < js.length) (ho : js[k].r = 0) : ∀ i (hi : i < js.length), i < k + 1 → js[i].r = 0 := by
  intro i hi hik
  by_cases e : i = k
  · subst e; exact ho
  · exact h i hi (by omega)
theorem plain_all {js : List J} (h : ∀ i (hi : i < js.length), i < js.length → js[i].r = 0) : plain0 js = true := by
  unfold plain0; rw [List.all_eq_true]
  intro j hj
  obtain ⟨i, hi, rfl⟩ := List.mem_iff_getElem.1 hj
  exact decide_eq_true (h i hi hi)
theorem posRel_any (j : J) (w : World) :
    Calls Tryd.prog 78 #[.agg #[.int .i64 j.t, .int .i64 j.w, .int .i64 j.r, .int .i64 j.d]] w fun e w' => e = .returned (.bool (decide (0 < j.r))) ∧ Below w.heap.size w w' := by
  go_enter Tryd.func78, Tryd.ntmps78
  go_wp2
  go_ret
  exact ⟨rfl, (Below.refl _ _).alloc (Nat.le_refl _) _⟩
def lowR (js : List J) : Bool := js.all fun j => decide (j.r ≤ 0)
theorem low_bad {js : List J} {j : J} (hj : j ∈ js) (h : ¬ j.r ≤ 0) : lowR js = false := by
  unfold lowR; rw [List.all_eq_false]; exact ⟨j, hj, by simpa using h⟩
theorem lowR_step {js : List J} {k : Nat} (h : ∀ i (hi : i < js.length), i < k → js[i].r ≤ 0) (hk : k < js.length) (ho : js[k].r ≤ 0) : ∀ i (hi : i < js.length), i < k + 1 → js[i].r ≤ 0 := by
  intro i hi hik
  by_cases e : i = k
  · subst e; exact ho
  · exact h i hi (by omega)
theorem low_all {js : List J} (h : ∀ i (hi : i < js.length), i < js.length → js[i].r ≤ 0) : lowR js = true := by
  unfold lowR; rw [List.all_eq_true]
  intro j hj
  obtain ⟨i, hi, rfl⟩ := List.mem_iff_getElem.1 hj
  exact decide_eq_true (h i hi hi)
theorem low_plain {js : List J} (hg : goodL js = true) : lowR js = plain0 js := by
  obtain ⟨_, hok⟩ := good_out hg
  unfold lowR plain0
  rw [Bool.eq_iff_iff, List.all_eq_true, List.all_eq_true]
  constructor
  · intro h j hj
    have h1 := okJ_out (hok j hj)
    have := of_decide_eq_true (h j hj)
    exact decide_eq_true (by omega)
  · intro h j hj
    have := of_decide_eq_true (h j hj)
    exact decide_eq_true (by omega)
def IdxP (js : List J) (w : World) (e : Ending) (w' : World) : Prop := ∃ r : Int, e = .returned (.int .i64 r) ∧ (0 ≤ r ↔ lowR js = false) ∧ Below w.heap.size w w'
theorem indexPos_any (A : Option Addr) (c : Nat) (js : List J) (w : World) (hr : Row w A (jc js)) (hn : js.length ≤ 100000000) :
    Calls Tryd.prog 100 #[.slice A js.length c, .func (.func 78) #[] #[]] w (IdxP js w) := by
  go_enter Tryd.func100, Tryd.ntmps100
  go_wp2
  go_loopw [8] (fun i wr => ∃ k : Nat, k ≤ js.length ∧ i = .int .i64 k ∧ Hid (∀ i (hi : i < js.length), i < k → js[i].r ≤ 0) ∧ Below w.heap.size w wr) (fun i _ => js.length - (intOf i).toNat)
  case atStart => exact ⟨0, Nat.zero_le _, rfl, fun _ _ h => absurd h (by omega), Below.refl _ _⟩
  case round =>
    obtain ⟨k, hk, rfl, hA, hb⟩ := hrel
    by_cases hlt : k < js.length
    · obtain ⟨a, hA', _, hc0, hc1, hc2, hc3⟩ := (hr.below hb).job hlt
      subst hA'
      have HB := Lib.hid hb
      have hi : (0 : Int) ≤ k := by omega
      have hi' : (k : Int) < js.length := by omega
      by_cases ho : js[k].r ≤ 0
      · have HA := Lib.hid (lowR_step hA.out hlt ho)
        have ho' : decide (0 < js[k].r) = false := decide_eq_false (by omega)
        clear hr hb hA
        generalize js[k] = j at *
        go_wp2_with fail
        refine (posRel_any j _).mono ?_
        rintro e w1 ⟨rfl, hb1⟩
        rw [ho']
        go_wp2
        go_roundw
        case rel => exact ⟨k + 1, by omega, by go_num, HA.out, HB.out.trans (hb1.mono HB.out.size)⟩
        case measure => simp [intOf]; omega
      · have HG := Lib.hid (low_bad (List.getElem_mem hlt) ho)
        have ho' : decide (0 < js[k].r) = true := decide_eq_true (by omega)
        clear hr hb hA
        generalize js[k] = j at *
        go_wp2_with fail
        refine (posRel_any j _).mono ?_
        rintro e w1 ⟨rfl, hb1⟩
        rw [ho']
        go_wp2
        go_ret
        exact ⟨k, rfl, ⟨fun _ => HG.out, fun _ => by omega⟩, HB.out.trans (hb1.mono HB.out.size)⟩
    · obtain rfl : k = js.length := by omega
      have HG := Lib.hid (low_all hA.out)
      clear hA
      go_wp2
      go_ret
      exact ⟨-1, rfl, ⟨fun h => by omega, fun h => by rw [HG.out] at h; cases h⟩, hb⟩
theorem containsPos_any (A : Option Addr) (c : Nat) (js : List J) (w : World) (hr : Row w A (jc js)) (hn : js.length ≤ 100000000) :
    Calls Tryd.prog 77 #[.slice A js.length c, .func (.func 78) #[] #[]] w fun e w' => e = .returned (.bool (!lowR js)) ∧ Below w.heap.size w w' := by
  go_enter Tryd.func77, Tryd.ntmps77
  go_wp2_with fail
  refine (indexPos_any A c js _ hr hn).mono ?_
  rintro e w1 ⟨r, rfl, hr1, hb1⟩
  by_cases h0 : 0 ≤ r
  · have H := Lib.hid (hr1.1 h0)
    clear hr1
    go_wp2
    go_ret
    exact ⟨by rw [H.out]; rfl, hb1⟩
  · have H : Hid (lowR js = true) := by
      show _ = _
      cases h : lowR js
      · exact absurd (hr1.2 h) h0
      · rfl
    clear hr1
    go_wp2
    go_ret
    exact ⟨by rw [H.out]; exact congrArg (fun b => Ending.returned (Value.bool b)) (decide_eq_false (by omega)), hb1⟩
theorem impl_IsPlain (A : Option Addr) (c : Nat) (js : List J) (w : World) (hr : Row w A (jc js)) (hn : js.length ≤ 100000000) :
    Calls Tryd.prog 55 #[.slice A js.length c] w fun e w' => e = .returned (.bool (plainL js)) ∧ Below w.heap.size w w' := by
  have HP : Hid (plainL js = (goodL js && plain0 js)) := rfl
  cases hg : goodL js
  · go_enter Tryd.func55, Tryd.ntmps55
    go_wp2_with fail
    refine (IsJobs_any A c js _ hr hn).mono ?_
    rintro e w1 ⟨rfl, hb1⟩
    rw [hg]
    go_wp2
    go_ret
    exact ⟨by rw [HP.out, hg]; rfl, hb1⟩
  · have HL := Lib.hid (low_plain hg)
    go_enter Tryd.func55, Tryd.ntmps55
    go_wp2_with fail
    refine (IsJobs_any A c js _ hr hn).mono ?_
    rintro e w1 ⟨rfl, hb1⟩
    rw [hg]
    go_wp2_with fail
    refine (containsPos_any A c js _ (hr.below hb1) hn).mono ?_
    rintro e w2 ⟨rfl, hb2⟩
    go_wp2
    go_ret
    exact ⟨by rw [HP.out, hg, ← HL.out]; simp, hb1.trans (hb2.mono hb1.size)⟩
end Go.Proofs.YtnkoncplfedffaaDoor

namespace Go.Proofs.YtnkoncplfedffaaDoor
open Go.RowKit
section
variable (A : Option Addr) (c : Nat) (js : List J) (w : World) (hr : Row w A (jc js)) (hn : js.length ≤ 100000000)
include hr hn
theorem l4Free_any : Calls Tryd.prog 54 #[.slice A js.length c] w fun e w' => e = .returned (.bool (lowR js)) ∧ Below w.heap.size w w' := by
  go_enter Tryd.func54, Tryd.ntmps54
  go_wp2
  go_loopw [3] (fun i wr => ∃ k : Nat, k ≤ js.length ∧ i = .int .i64 k ∧ Hid (∀ i (hi : i < js.length), i < k → js[i].r ≤ 0) ∧ Below w.heap.size w wr) (fun i _ => js.length - (intOf i).toNat)
  case atStart => exact ⟨0, Nat.zero_le _, rfl, fun _ _ h => absurd h (by omega), Below.refl _ _⟩
  case round =>
    obtain ⟨k, hk, rfl, hA, hb⟩ := hrel
    by_cases hlt : k < js.length
    · obtain ⟨a, hA', _, hc0, hc1, hc2, hc3⟩ := (hr.below hb).job hlt
      subst hA'
      have HB := Lib.hid hb
      have hi : (0 : Int) ≤ k := by omega
      have hi' : (k : Int) < js.length := by omega
      by_cases ho : js[k].r ≤ 0
      · have HA := Lib.hid (lowR_step hA.out hlt ho)
        have ho' : ¬ (0 < js[k].r) := by omega
        clear hr hb hA
        generalize js[k] = j at *
        go_wp2
        go_roundw
        case rel => exact ⟨k + 1, by omega, by go_num, HA.out, HB.out⟩
        case measure => simp [intOf]; omega
      · have HG := Lib.hid (low_bad (List.getElem_mem hlt) ho)
        have ho' : 0 < js[k].r := by omega
        clear hr hb hA
        generalize js[k] = j at *
        go_wp2
        go_ret
        exact ⟨by rw [HG.out]; rfl, HB.out⟩
    · obtain rfl : k = js.length := by omega
      have HG := Lib.hid (low_all hA.out)
      clear hA
      go_wp2
      go_ret
      exact ⟨by rw [HG.out]; rfl, hb⟩
theorem l6Good_any : Calls Tryd.prog 32 #[.slice A js.length c] w fun e w' => e = .returned (.bool (plainL js)) ∧ Below w.heap.size w w' := by
  have HP : Hid (plainL js = (goodL js && plain0 js)) := rfl
  cases hg : goodL js
  · go_enter Tryd.func32, Tryd.ntmps32
    go_wp2_with fail
    refine (l2Good_any A c js _ hr hn).mono ?_
    rintro e w1 ⟨rfl, hb1⟩
    rw [hg]
    go_wp2
    go_ret
    exact ⟨by rw [HP.out, hg]; rfl, hb1⟩
  · have HL := Lib.hid (low_plain hg)
    go_enter Tryd.func32, Tryd.ntmps32
    go_wp2_with fail
    refine (l2Good_any A c js _ hr hn).mono ?_
    rintro e w1 ⟨rfl, hb1⟩
    rw [hg]
    go_wp2_with fail
    refine (l4Free_any A c js _ (hr.below hb1) hn).mono ?_
    rintro e w2 ⟨rfl, hb2⟩
    go_wp2
    go_ret
    exact ⟨by rw [HP.out, hg, ← HL.out]; rfl, hb1.trans (hb2.mono hb1.size)⟩
/-- A list that is not plain is handed on as none. -/
def PlnIs (A : Option Addr) (c : Nat) (js : List J) (w : World) (e : Ending) (w' : World) : Prop :=
  Below w.heap.size w w' ∧ ((plainL js = true ∧ e = .returned (.tuple #[.slice A js.length c, .bool true])) ∨ (plainL js = false ∧ e = .returned (.tuple #[.slice none 0 0, .bool false])))
theorem plainListOf_any : Calls Tryd.prog 35 #[.slice A js.length c] w (PlnIs A c js w) := by
  cases hp : plainL js
  · go_enter Tryd.func35, Tryd.ntmps35
    go_wp2_with fail
    refine (impl_IsPlain A c js _ hr hn).mono ?_
    rintro e w1 ⟨rfl, hb1⟩
    rw [hp]
    go_wp2
    go_ret2
    exact ⟨hb1, .inr ⟨hp, rfl⟩⟩
  · go_enter Tryd.func35, Tryd.ntmps35
    go_wp2_with fail
    refine (impl_IsPlain A c js _ hr hn).mono ?_
    rintro e w1 ⟨rfl, hb1⟩
    rw [hp]
    go_wp2
    go_ret2
    exact ⟨hb1, .inl ⟨hp, rfl⟩⟩
end
end Go.Proofs.YtnkoncplfedffaaDoor

namespace Go.Proofs.YtnkoncplfedffaaDoor
open Go.RowKit Go.Shelf
attribute [local go_sem] Oper.semAt_some
def sumT (js : List J) (l : List Nat) : Int := (l.map fun k => (js.getD k j0).t).sum
theorem sumT_snoc (js : List J) (l : List Nat) (k : Nat) : sumT js (l ++ [k]) = sumT js l + (js.getD k j0).t := by unfold sumT; simp
theorem sumT_bd {js : List J} (hok : ∀ j ∈ js, okJ j = true) : ∀ l : List Nat, (∀ k ∈ l, k < js.length) → 0 ≤ sumT js l ∧ sumT js l ≤ 50 * (l.length : Int)
  | [], _ => by simp [sumT]
  | k :: l, h => by
    have h1 := sumT_bd hok l (fun x hx => h x (List.mem_cons_of_mem _ hx))
    have hk := h k List.mem_cons_self
    have h2 := okJ_out (hok _ (List.getElem_mem hk))
    have e : sumT js (k :: l) = js[k].t + sumT js l := by unfold sumT; simp [List.getD, hk]
    rw [e, List.length_cons]
    omega
def timeB (js : List J) (s : Nat) : Int := sumT js (memB s)
section
variable (A : Option Addr) (c s : Nat) (js : List J) (w : World) (hs : s < 256) (hr : Row w A (jc js)) (hok : ∀ j ∈ js, okJ j = true) (hlt : ∀ k, s.testBit k = true → k < js.length) (hT : TzTab w)
include hs hr hok hlt hT
set_option maxRecDepth 100000 in
set_option maxHeartbeats 4000000 in
theorem timeOf_any : Calls Tryd.prog 36 #[.slice A js.length c, .int .u64 (s : Int)] w fun e w' => e = .returned (.int .i64 (timeB js s)) ∧ Below w.heap.size w w' := by
  have b0 : Boxed (((w.alloc (.cells #[.slice A js.length c] 53)).alloc (.cells #[.int .i64 0] 3)).alloc (.cells #[.int .u64 (s : Int)] 58)) w.heap.size 53 (.slice A js.length c) := ((Boxed.new w 53 (.slice A js.length c)).alloc _).alloc _
  have b1 : Boxed (((w.alloc (.cells #[.slice A js.length c] 53)).alloc (.cells #[.int .i64 0] 3)).alloc (.cells #[.int .u64 (s : Int)] 58)) (w.heap.size + 1) 3 (.int .i64 0) := by
    have h := (Boxed.new (w.alloc (.cells #[.slice A js.length c] 53)) 3 (.int .i64 0)).alloc (.cells #[.int .u64 (s : Int)] 58)
    rwa [World.size_alloc] at h
  have b2 : Boxed (((w.alloc (.cells #[.slice A js.length c] 53)).alloc (.cells #[.int .i64 0] 3)).alloc (.cells #[.int .u64 (s : Int)] 58)) (w.heap.size + 1 + 1) 58 (.int .u64 (s : Int)) := by
    have h := Boxed.new ((w.alloc (.cells #[.slice A js.length c] 53)).alloc (.cells #[.int .i64 0] 3)) 58 (.int .u64 (s : Int))
    rwa [World.size_alloc, World.size_alloc] at h
  have hb3 : Below w.heap.size w (((w.alloc (.cells #[.slice A js.length c] 53)).alloc (.cells #[.int .i64 0] 3)).alloc (.cells #[.int .u64 (s : Int)] 58)) := (((Below.refl _ w).alloc (Nat.le_refl _) _).alloc (by simp) _).alloc (by simp; omega) _
  have hz3 : (((w.alloc (.cells #[.slice A js.length c] 53)).alloc (.cells #[.int .i64 0] 3)).alloc (.cells #[.int .u64 (s : Int)] 58)).heap.size = w.heap.size + 1 + 1 + 1 := by simp
  have H3 := Lib.hid (And.intro b0 (And.intro b1 (And.intro b2 hb3)))
  have HR := Lib.hid hr
  have HT := Lib.hid hT
  clear b0 b1 b2 hb3 hr hT
  refine (callsIn_wide (n := 6)).1 ?_
  refine callsIn_of_wp_marks Tryd.func36 rfl trivial ?_ rfl
  simp only [Tryd.ntmps36, List.size_toArray, List.length_cons, List.length_nil, Nat.reduceAdd, Nat.reduceSub, Array.replicate_succ, Array.replicate_zero, List.push_toArray, List.append_toArray, List.nil_append, List.cons_append]
  gi_wp2_with (refine ⟨trivial, ?_⟩; gi_at_call 56; refine (members_in 5 _ _).mono ?_; rintro e w' ⟨rfl, rfl⟩)
  generalize ((w.alloc (.cells #[.slice A js.length c] 53)).alloc (.cells #[.int .i64 0] 3)).alloc (.cells #[.int .u64 (s : Int)] 58) = w3 at *
  -- RANGE
  obtain ⟨b0, b1, b2, hb3⟩ := H3.out
  refine wpIn_rangeFunc_ownG (F := Fence.wide) rfl (by omega) (gf := 79) (lb := #[.pointer (some ⟨w.heap.size + 1 + 1, 0, none⟩)]) rfl trivial (enters_of Tryd.func79 (by kernel_rfl) rfl)
    (members_stops 5 (by omega) (w.heap.size + 1 + 1) s hs w3 (by omega) b2 (HT.out.below hb3))
    (fun h k t => k (h t)) (fun W l' o o' hl ho hc _ => KeepsTz.put ho hc) (Below.refl _ _) (fun _ => rfl)
    (fun (pre : List (Mb s)) W => (Boxed W w.heap.size 53 (.slice A js.length c) ∧ Boxed W (w.heap.size + 1) 3 (.int .i64 (sumT js (vals pre)))) ∧ Below w.heap.size w W)
    (fun _ _ _ => False)
    (OwnFrom.and (OwnFrom.and (Own.from (boxed_own _ _ _) _) (Own.from (boxed_own _ _ _) _)) (ownFrom_below (Nat.le_refl _) (by omega)))
    (fun _ _ _ _ _ h _ _ => h)
    ⟨⟨b0, b1⟩, hb3⟩
    (fun x => { tmps := #[.slice A js.length c, .int .u64 (s : Int), .pointer (some ⟨w.heap.size, 0, none⟩), undef, .int .i64 0, .pointer (some ⟨w.heap.size + 1, 0, none⟩), .int .i64 (x.1 : Int), .int .u64 (s : Int), .func (.func 79) #[] #[.pointer (some ⟨w.heap.size + 1 + 1, 0, none⟩)], .int .i64 (x.1 : Int), undef, undef, undef, undef, undef, undef, undef, undef], defers := [] }) ?assign ?body ?done ?stop
  case assign =>
    intro l' x W K hK
    unfold encM
    gi_wp2
    exact hK
  case body =>
    rintro l' pre ⟨x, hx⟩ W ⟨⟨y0, y1⟩, hb⟩ hl
    have hxl := hlt x hx
    have hmo : Tryd.prog.follows .mixedOrders = true := by kernel_rfl
    obtain ⟨ad, rfl, hadb, cj0, cj1, cj2, cj3⟩ := (HR.out.below hb).job hxl
    have HSN : Hid (sumT js (vals (pre ++ [(⟨x, hx⟩ : Mb s)])) = sumT js (vals pre) + js[x].t) := by show _ = _; rw [vals_snoc, sumT_snoc, getD_at js j0 hxl]
    have hpl : (vals pre).length ≤ 8 := by have h1 := memB_len s; rw [vals_len]; omega
    have hbd := sumT_bd hok (vals pre) (fun k hk => by obtain ⟨z, _, rfl⟩ := List.mem_map.1 hk; exact hlt _ z.2)
    have hjt := okJ_out (hok _ (List.getElem_mem hxl))
    obtain ⟨W1, hW1⟩ : ∃ W1, W1 = W.drew := ⟨_, rfl⟩
    have q0 : W1.cell? ⟨w.heap.size, 0, none⟩ = some (.slice (some ad) js.length c) := by rw [hW1]; exact y0.cell
    have q1 : W1.cell? ⟨w.heap.size + 1, 0, none⟩ = some (.int .i64 (sumT js (vals pre))) := by rw [hW1]; exact y1.cell
    have f1 : W1.frozen? ⟨w.heap.size + 1, 0, none⟩ = false := by rw [hW1]; exact y1.frozen
    have qj : W1.cell? (ad.add (x * 4)) = some (.int .i64 js[x].t) := by rw [hW1]; exact cj0
    have hx0 : (0 : Int) ≤ x := by omega
    have hx1 : (x : Int) < js.length := by omega
    generalize js[x] = j at *
    generalize sumT js (vals pre) = sm at *
    have hwr := IntWalk.i64_in (sm + j.t) (by omega)
    dsimp only
    gi_wp2
    refine wpIn_region_detX (fun _ => trivial) (by kernel_rfl) hmo (fun (_ : Unit) (L : Array Bool) w' => (L.getD 7 true = false → w' = W1) ∧ (L.getD 7 true = true → w' = W1.setCell ⟨w.heap.size + 1, 0, none⟩ (.int .i64 (sm + j.t)))) (fun _ k => (#[.int .i64 sm, .slice (some ad) js.length c, .int .i64 (x : Int), .pointer (some (ad.add (x * 4))), .pointer (some (ad.add (x * 4))), .int .i64 j.t, .int .i64 (sm + j.t), undef] : Array Value).getD k undef) () (by kernel_rfl) (by kernel_rfl) ⟨fun _ => hW1.symm, fun h => by cases h⟩ ?_ ?_
    · intro _ L tm w' hall hS hsz hlow hval
      obtain rfl := hS.2 (hall 7 (by decide))
      have ht : tm = #[.slice (some ad) js.length c, .int .u64 (s : Int), .pointer (some ⟨w.heap.size, 0, none⟩), undef, .int .i64 0, .pointer (some ⟨w.heap.size + 1, 0, none⟩), .int .i64 (x : Int), .int .u64 (s : Int), .func (.func 79) #[] #[.pointer (some ⟨w.heap.size + 1 + 1, 0, none⟩)], .int .i64 (x : Int), .int .i64 sm, .slice (some ad) js.length c, .int .i64 (x : Int), .pointer (some (ad.add (x * 4))), .pointer (some (ad.add (x * 4))), .int .i64 j.t, .int .i64 (sm + j.t), undef] := by
        refine arr_of _ _ hsz fun t ht => ?_
        have ht' : t < 18 := ht
        rcases (by omega : t = 0 ∨ t = 1 ∨ t = 2 ∨ t = 3 ∨ t = 4 ∨ t = 5 ∨ t = 6 ∨ t = 7 ∨ t = 8 ∨ t = 9 ∨ t = 10 ∨ t = 11 ∨ t = 12 ∨ t = 13 ∨ t = 14 ∨ t = 15 ∨ t = 16 ∨ t = 17) with rfl | rfl | rfl | rfl | rfl | rfl | rfl | rfl | rfl | rfl | rfl | rfl | rfl | rfl | rfl | rfl | rfl | rfl
        · exact hlow 0 (by kernel_rfl)
        · exact hlow 1 (by kernel_rfl)
        · exact hlow 2 (by kernel_rfl)
        · exact hlow 3 (by kernel_rfl)
        · exact hlow 4 (by kernel_rfl)
        · exact hlow 5 (by kernel_rfl)
        · exact hlow 6 (by kernel_rfl)
        · exact hlow 7 (by kernel_rfl)
        · exact hlow 8 (by kernel_rfl)
        · exact hlow 9 (by kernel_rfl)
        · exact hval 0 _ 10 rfl rfl
        · exact hval 1 _ 11 rfl rfl
        · exact hval 2 _ 12 rfl rfl
        · exact hval 3 _ 13 rfl rfl
        · exact hval 4 _ 14 rfl rfl
        · exact hval 5 _ 15 rfl rfl
        · exact hval 6 _ 16 rfl rfl
        · exact hlow 17 (by kernel_rfl)
      subst ht
      clear hlow hval hsz hall hS
      have HW1 := Lib.hid hW1
      clear hW1
      gi_wp2
      have hbw : Below w.heap.size w (W1.setCell ⟨w.heap.size + 1, 0, none⟩ (.int .i64 (sm + j.t))) := (show Below w.heap.size w W1 by rw [HW1.out]; exact hb.drew).setCell (p := ⟨w.heap.size + 1, 0, none⟩) (by simp) _
      have z0 : Boxed W1 w.heap.size 53 (.slice (some ad) js.length c) := by rw [HW1.out]; exact y0
      have z1 : Boxed W1 (w.heap.size + 1) 3 (.int .i64 sm) := by rw [HW1.out]; exact y1
      exact ⟨((KeepsOthers.drew W).trans (by rw [← HW1.out]; exact KeepsOthers.setCell _ _ _)).from _, fun _ => HT.out.below hbw, ⟨z0.other (by omega) _, by rw [HSN.out]; exact z1.set _⟩, hbw⟩
    · intro _ L a' w' i op hLs ho hLi hLd hLn hS hlow hdep _
      have hi : i < 8 := (Array.getElem?_eq_some_iff.1 ho).1
      rcases (by omega : i = 0 ∨ i = 1 ∨ i = 2 ∨ i = 3 ∨ i = 4 ∨ i = 5 ∨ i = 6 ∨ i = 7) with rfl | rfl | rfl | rfl | rfl | rfl | rfl | rfl
      · obtain rfl := Option.some.inj ho
        have e5 : a'.tmps[5]?.getD undef = .pointer (some ⟨w.heap.size + 1, 0, none⟩) := (Array.getD_eq_getD_getElem? ..).symm.trans (hlow 5 (by kernel_rfl))
        have hK : ((L.setIfInBounds 0 true).getD 7 true = false → w' = W1) ∧ ((L.setIfInBounds 0 true).getD 7 true = true → w' = W1.setCell ⟨w.heap.size + 1, 0, none⟩ (.int .i64 (sm + j.t))) := by rw [getD_set_true, if_neg (fun h => by cases h.1)]; exact hS
        obtain rfl : W1 = w' := (hS.1 (hLn 7 (by kernel_rfl))).symm
        exact .inl ⟨wanted_free rfl, .inl ⟨(), _, fun _ _ => rfl, by simp [execOp, Act.eval, e5, q1, go_sem], hK⟩⟩
      · obtain rfl := Option.some.inj ho
        have e2 : a'.tmps[2]?.getD undef = .pointer (some ⟨w.heap.size, 0, none⟩) := (Array.getD_eq_getD_getElem? ..).symm.trans (hlow 2 (by kernel_rfl))
        have hK : ((L.setIfInBounds 1 true).getD 7 true = false → w' = W1) ∧ ((L.setIfInBounds 1 true).getD 7 true = true → w' = W1.setCell ⟨w.heap.size + 1, 0, none⟩ (.int .i64 (sm + j.t))) := by rw [getD_set_true, if_neg (fun h => by cases h.1)]; exact hS
        obtain rfl : W1 = w' := (hS.1 (hLn 7 (by kernel_rfl))).symm
        exact .inl ⟨wanted_free rfl, .inl ⟨(), _, fun _ _ => rfl, by simp [execOp, Act.eval, e2, q0, go_sem], hK⟩⟩
      · obtain rfl := Option.some.inj ho
        have e6 : a'.tmps[6]?.getD undef = .int .i64 (x : Int) := (Array.getD_eq_getD_getElem? ..).symm.trans (hlow 6 (by kernel_rfl))
        have hK : ((L.setIfInBounds 2 true).getD 7 true = false → w' = W1) ∧ ((L.setIfInBounds 2 true).getD 7 true = true → w' = W1.setCell ⟨w.heap.size + 1, 0, none⟩ (.int .i64 (sm + j.t))) := by rw [getD_set_true, if_neg (fun h => by cases h.1)]; exact hS
        exact .inl ⟨wanted_free rfl, .inl ⟨(), _, fun _ _ => rfl, by simp [execOp, Act.eval, e6, go_sem], hK⟩⟩
      · obtain rfl := Option.some.inj ho
        have e11 : a'.tmps[11]?.getD undef = .slice (some ad) js.length c := (Array.getD_eq_getD_getElem? ..).symm.trans (hdep 1 _ 11 (by kernel_rfl) rfl rfl)
        have e12 : a'.tmps[12]?.getD undef = .int .i64 (x : Int) := (Array.getD_eq_getD_getElem? ..).symm.trans (hdep 2 _ 12 (by kernel_rfl) rfl rfl)
        have hK : ((L.setIfInBounds 3 true).getD 7 true = false → w' = W1) ∧ ((L.setIfInBounds 3 true).getD 7 true = true → w' = W1.setCell ⟨w.heap.size + 1, 0, none⟩ (.int .i64 (sm + j.t))) := by rw [getD_set_true, if_neg (fun h => by cases h.1)]; exact hS
        exact .inl ⟨wanted_free rfl, .inl ⟨(), _, fun _ _ => rfl, by simp [execOp, Act.eval, e11, e12, hx0, hx1, go_sem], hK⟩⟩
      · obtain rfl := Option.some.inj ho
        have e13 : a'.tmps[13]?.getD undef = .pointer (some (ad.add (x * 4))) := (Array.getD_eq_getD_getElem? ..).symm.trans (hdep 3 _ 13 (by kernel_rfl) rfl rfl)
        have hK : ((L.setIfInBounds 4 true).getD 7 true = false → w' = W1) ∧ ((L.setIfInBounds 4 true).getD 7 true = true → w' = W1.setCell ⟨w.heap.size + 1, 0, none⟩ (.int .i64 (sm + j.t))) := by rw [getD_set_true, if_neg (fun h => by cases h.1)]; exact hS
        exact .inl ⟨wanted_free rfl, .inl ⟨(), _, fun _ _ => rfl, by simp [execOp, Act.eval, e13, go_sem], hK⟩⟩
      · obtain rfl := Option.some.inj ho
        have e14 : a'.tmps[14]?.getD undef = .pointer (some (ad.add (x * 4))) := (Array.getD_eq_getD_getElem? ..).symm.trans (hdep 4 _ 14 (by kernel_rfl) rfl rfl)
        have hK : ((L.setIfInBounds 5 true).getD 7 true = false → w' = W1) ∧ ((L.setIfInBounds 5 true).getD 7 true = true → w' = W1.setCell ⟨w.heap.size + 1, 0, none⟩ (.int .i64 (sm + j.t))) := by rw [getD_set_true, if_neg (fun h => by cases h.1)]; exact hS
        obtain rfl : W1 = w' := (hS.1 (hLn 7 (by kernel_rfl))).symm
        exact .inl ⟨wanted_free rfl, .inl ⟨(), _, fun _ _ => rfl, by simp [execOp, Act.eval, e14, qj, go_sem], hK⟩⟩
      · obtain rfl := Option.some.inj ho
        have e10 : a'.tmps[10]?.getD undef = .int .i64 sm := (Array.getD_eq_getD_getElem? ..).symm.trans (hdep 0 _ 10 (by kernel_rfl) rfl rfl)
        have e15 : a'.tmps[15]?.getD undef = .int .i64 j.t := (Array.getD_eq_getD_getElem? ..).symm.trans (hdep 5 _ 15 (by kernel_rfl) rfl rfl)
        have hK : ((L.setIfInBounds 6 true).getD 7 true = false → w' = W1) ∧ ((L.setIfInBounds 6 true).getD 7 true = true → w' = W1.setCell ⟨w.heap.size + 1, 0, none⟩ (.int .i64 (sm + j.t))) := by rw [getD_set_true, if_neg (fun h => by cases h.1)]; exact hS
        exact .inl ⟨wanted_free rfl, .inl ⟨(), _, fun _ _ => rfl, by simp [execOp, Act.eval, e10, e15, hwr, go_sem], hK⟩⟩
      · obtain rfl := Option.some.inj ho
        have e5 : a'.tmps[5]?.getD undef = .pointer (some ⟨w.heap.size + 1, 0, none⟩) := (Array.getD_eq_getD_getElem? ..).symm.trans (hlow 5 (by kernel_rfl))
        have e16 : a'.tmps[16]?.getD undef = .int .i64 (sm + j.t) := (Array.getD_eq_getD_getElem? ..).symm.trans (hdep 6 _ 16 (by kernel_rfl) rfl rfl)
        obtain rfl : W1 = w' := (hS.1 hLi).symm
        have hK : ((L.setIfInBounds 7 true).getD 7 true = false → W1.setCell ⟨w.heap.size + 1, 0, none⟩ (.int .i64 (sm + j.t)) = W1) ∧ ((L.setIfInBounds 7 true).getD 7 true = true → W1.setCell ⟨w.heap.size + 1, 0, none⟩ (.int .i64 (sm + j.t)) = W1.setCell ⟨w.heap.size + 1, 0, none⟩ (.int .i64 (sm + j.t))) := ⟨fun h => (by rw [getD_set_true, if_pos ⟨rfl, by rw [hLs]; decide⟩] at h; cases h), fun _ => rfl⟩
        exact .inl ⟨wanted_free rfl, .inr ⟨(), W1.setCell ⟨w.heap.size + 1, 0, none⟩ (.int .i64 (sm + j.t)), fun _ _ => rfl, rfl, by simp [execOp, Act.eval, e5, e16, q1, f1, go_sem], hK⟩⟩
  case done =>
    rintro D ys W hD hys ⟨⟨y0, y1⟩, hb⟩ hK
    have hc := y1.cell
    gi_wp2
    refine ⟨by simp, .inl ⟨_, _, rfl, run_takeDeferred hK, ?_⟩⟩
    exact ⟨_, results_tmp rfl _ _ _, rfl, hb.trans (belowK_b (w := w3) (by omega) W D _ _ (by omega) hK rfl rfl)⟩
  case stop =>
    rintro D cd pre W _ _ h _
    exact h.elim
end
theorem memB_all : ∀ n, n < 9 → memB (2 ^ n - 1) = List.range n := by decide +kernel
theorem pow_lt : ∀ n, n < 9 → 2 ^ n - 1 < 256 := by decide
theorem all_bit {n : Nat} (hn : n < 9) {k : Nat} (h : (2 ^ n - 1).testBit k = true) : k < n := by
  have h1 := (memB_mem (pow_lt n hn)).2 h
  rw [memB_all n hn] at h1
  exact List.mem_range.1 h1
def totL (js : List J) : Int := sumT js (List.range js.length)
def totalR (js : List J) : Int × Bool := if plainL js then (totL js, true) else (0, false)
def totTo (js : List J) (k : Nat) : Int := sumT js (List.range k)
theorem totTo_succ (js : List J) (k : Nat) (hk : k < js.length) : totTo js (k + 1) = totTo js k + js[k].t := by
  unfold totTo; rw [List.range_succ, sumT_snoc, getD_at js j0 hk]
section
variable (A : Option Addr) (c : Nat) (js : List J) (w : World) (hr : Row w A (jc js))
include hr
theorem l2Sum_any (hg : goodL js = true) : Calls Tryd.prog 33 #[.slice A js.length c] w fun e w' => e = .returned (.int .i64 (totL js)) ∧ Below w.heap.size w w' := by
  obtain ⟨h8, hok⟩ := good_out hg
  go_enter Tryd.func33, Tryd.ntmps33
  go_wp2
  go_loopw [3, 4] (fun sv i wr => ∃ k : Nat, k ≤ js.length ∧ i = .int .i64 k ∧ sv = .int .i64 (totTo js k) ∧ Below w.heap.size w wr) (fun _ i _ => js.length - (intOf i).toNat)
  case atStart => exact ⟨0, Nat.zero_le _, rfl, rfl, Below.refl _ _⟩
  case round =>
    obtain ⟨k, hk, rfl, rfl, hb⟩ := hrel
    by_cases hlt : k < js.length
    · obtain ⟨a, hA', _, hc0, hc1, hc2, hc3⟩ := (hr.below hb).job hlt
      subst hA'
      have hi : (0 : Int) ≤ k := by omega
      have hi' : (k : Int) < js.length := by omega
      have hbd := sumT_bd hok (List.range k) (fun x hx => by have := List.mem_range.1 hx; omega)
      rw [List.length_range] at hbd
      have hjt := okJ_out (hok _ (List.getElem_mem hlt))
      have HS := Lib.hid (totTo_succ js k hlt)
      have hbd1 : 0 ≤ totTo js k := hbd.1
      have hbd2 : totTo js k ≤ 50 * (k : Int) := hbd.2
      clear hbd hr hok hg
      generalize totTo js k = t1 at *
      generalize js[k] = j at *
      go_wp2
      go_roundw
      case rel => exact ⟨k + 1, by omega, by go_num, by rw [HS.out], hb⟩
      case measure => simp [intOf]; omega
    · obtain rfl : k = js.length := by omega
      have HG : Hid (totTo js js.length = totL js) := rfl
      go_wp2
      go_ret
      exact ⟨by rw [← HG.out]; rfl, hb⟩
theorem spec_TotalTime (hn : js.length ≤ 10000000) : Calls Tryd.prog 10 #[.slice A js.length c] w (RetNB w (totalR js)) := by
  have HR : Hid (totalR js = if plainL js then (totL js, true) else (0, false)) := rfl
  cases hp : plainL js
  · rw [hp] at HR
    go_enter Tryd.func10, Tryd.ntmps10
    go_wp2_with fail
    refine (l6Good_any A c js _ hr (by omega)).mono ?_
    rintro e w1 ⟨rfl, hb1⟩
    rw [hp]
    go_wp2
    go_ret2
    exact ⟨by rw [HR.out]; rfl, hb1⟩
  · rw [hp] at HR
    have hg := plain_good hp
    go_enter Tryd.func10, Tryd.ntmps10
    go_wp2_with fail
    refine (l6Good_any A c js _ hr (by omega)).mono ?_
    rintro e w1 ⟨rfl, hb1⟩
    rw [hp]
    go_wp2_with fail
    refine (l2Sum_any A c js _ (hr.below hb1) hg).mono ?_
    rintro e w2 ⟨rfl, hb2⟩
    go_wp2
    go_ret2
    exact ⟨by rw [HR.out]; rfl, hb1.trans (hb2.mono hb1.size)⟩
set_option maxRecDepth 100000 in
theorem impl_TotalTime (hn : js.length ≤ 10000000) (hT : TzTab w) : Calls Tryd.prog 12 #[.slice A js.length c] w (RetNB w (totalR js)) := by
  have HR : Hid (totalR js = if plainL js then (totL js, true) else (0, false)) := rfl
  have HT := Lib.hid hT
  clear hT
  go_enter Tryd.func12, Tryd.ntmps12
  go_wp2_with fail
  refine (plainListOf_any A c js w hr (by omega)).mono ?_
  rintro e w1 ⟨hb1, ⟨hp, rfl⟩ | ⟨hp, rfl⟩⟩
  · rw [hp] at HR
    obtain ⟨h8, hok⟩ := good_out (plain_good hp)
    have hpw := pow_lt js.length (by omega)
    have HTO : Hid (timeB js (2 ^ js.length - 1) = totL js) := by show _ = _; unfold timeB totL; rw [memB_all js.length (by omega)]
    have HC := Lib.hid (timeOf_any A c (2 ^ js.length - 1) js _ hpw (hr.below hb1) hok (fun k hk => all_bit (by omega) hk) (HT.out.below hb1))
    clear hok
    go_wp2_with fail
    refine (all_any A js.length c h8 _).mono ?_
    rintro e _ ⟨rfl, rfl⟩
    generalize 2 ^ js.length - 1 = sx at *
    go_wp2_with fail
    refine HC.out.mono ?_
    rintro e w2 ⟨rfl, hb2⟩
    rw [HTO.out]
    go_wp2
    go_ret2
    exact ⟨by rw [HR.out]; rfl, hb1.trans (hb2.mono hb1.size)⟩
  · rw [hp] at HR
    have HTO : Hid (timeB [] (2 ^ 0 - 1) = 0) := by show _ = _; unfold timeB; rw [memB_all 0 (by omega)]; rfl
    have HC := Lib.hid (timeOf_any none 0 (2 ^ 0 - 1) [] w1 (by omega) (Row.nil _) (by simp) (fun k hk => by simp at hk) (HT.out.below hb1))
    go_wp2_with fail
    refine (all_any none 0 0 (by omega) _).mono ?_
    rintro e _ ⟨rfl, rfl⟩
    go_wp2_with fail
    refine HC.out.mono ?_
    rintro e w2 ⟨rfl, hb2⟩
    rw [HTO.out]
    go_wp2
    go_ret2
    exact ⟨by rw [HR.out]; rfl, hb1.trans (hb2.mono hb1.size)⟩
end
end Go.Proofs.YtnkoncplfedffaaDoor

namespace Go.Proofs.YtnkoncplfedffaaDoor
open Go.RowKit
/-- The first number that is not 0. -/
def orL : List Int → Int
  | [] => 0
  | x :: l => if x ≠ 0 then x else orL l
theorem orL_hit : ∀ (l : List Int) (k : Nat) (h : k < l.length), (∀ i (hi : i < l.length), i < k → l[i] = 0) → l[k] ≠ 0 → orL l = l[k]
  | x :: l, 0, _, _, h0 => by simp only [List.getElem_cons_zero] at h0 ⊢; unfold orL; rw [if_pos h0]
  | x :: l, k + 1, h, ha, h0 => by
    have hx := ha 0 (by simp) (by omega)
    simp only [List.getElem_cons_zero] at hx
    unfold orL
    rw [if_neg (fun e => e hx)]
    simp only [List.getElem_cons_succ] at h0 ⊢
    exact orL_hit l k (by simpa using h) (fun i hi hik => by have := ha (i + 1) (by simpa using hi) (by omega); simpa using this) h0
theorem orL_none : ∀ (l : List Int), (∀ i (hi : i < l.length), l[i] = 0) → orL l = 0
  | [], _ => rfl
  | x :: l, ha => by
    have hx := ha 0 (by simp)
    simp only [List.getElem_cons_zero] at hx
    unfold orL
    rw [if_neg (fun e => e hx)]
    exact orL_none l (fun i hi => by have := ha (i + 1) (by simpa using hi); simpa using this)
theorem cmpOr_any (B : Option Addr) (d : Nat) (xs : List Int) (w : World) (hr : Row w B (ic xs)) (hn : xs.length ≤ 1000) :
    Calls Tryd.prog 86 #[.slice B xs.length d] w fun e w' => e = .returned (.int .i64 (orL xs)) ∧ w = w' := by
  go_enter Tryd.func86, Tryd.ntmps86
  go_wp2
  go_loop [8] (fun i => ∃ k : Nat, k ≤ xs.length ∧ i = .int .i64 k ∧ Hid (∀ i (hi : i < xs.length), i < k → xs[i] = 0)) (fun i => xs.length - (intOf i).toNat)
  case atStart => exact ⟨0, Nat.zero_le _, rfl, fun _ _ h => absurd h (by omega)⟩
  case round =>
    obtain ⟨k, hk, rfl, hA⟩ := hrel
    by_cases hlt : k < xs.length
    · obtain ⟨ad, hB, hc⟩ := hr.int hlt
      subst hB
      have hk0 : (0 : Int) ≤ k := by omega
      have hk1 : (k : Int) < xs.length := by omega
      by_cases h0 : xs[k] = 0
      · have HA : Hid (∀ i (hi : i < xs.length), i < k + 1 → xs[i] = 0) := fun i hi hik => by
          by_cases e : i = k
          · subst e; exact h0
          · exact hA.out i hi (by omega)
        have e0 : (xs[k] != 0) = false := by rw [h0]; rfl
        clear h0 hA hr
        generalize xs[k] = x at *
        go_wp2
        go_round
        case rel => exact ⟨k + 1, by omega, by go_num, HA.out⟩
        case measure => simp [intOf]; omega
      · have HO := Lib.hid (orL_hit xs k hlt hA.out h0)
        have e0 : (xs[k] != 0) = true := by simpa using h0
        clear h0 hA hr
        generalize xs[k] = x at *
        go_wp2
        go_ret
        exact ⟨by rw [HO.out]; rfl, rfl⟩
    · obtain rfl : k = xs.length := by omega
      have HO := Lib.hid (orL_none xs (fun i hi => hA.out i hi hi))
      clear hA
      go_wp2
      go_ret
      exact ⟨by rw [HO.out]; rfl, rfl⟩
section
variable (A : Option Addr) (c : Nat) (js : List J) (w : World) (hr : Row w A (jc js)) (hok : ∀ j ∈ js, okJ j = true) (h8 : js.length ≤ 8) (i k : Nat) (hi : i < js.length) (hk : k < js.length)
include hr hok h8 hi hk
set_option maxRecDepth 100000 in
set_option maxHeartbeats 4000000 in
theorem compareDue_any : Calls Tryd.prog 62 #[.slice A js.length c, .int .i64 (i : Int), .int .i64 (k : Int)] w fun e w' => e = .returned (.int .i64 (cmpD js i k)) ∧ Below w.heap.size w w' := by
  obtain ⟨ad, rfl, hadb, a0, a1, a2, a3⟩ := hr.job hi
  obtain ⟨ad', hA', _, b0, b1, b2, b3⟩ := hr.job hk
  injection hA' with hA'
  subst hA'
  have HS : Hid (cmpD js i k = orL [js[i].d - js[k].d, js[i].t - js[k].t, (i : Int) - k]) := by
    show _ = _
    unfold cmpD
    rw [getD_at js j0 hi, getD_at js j0 hk]
    unfold orL orL orL orL
    split
    · rfl
    · split
      · rfl
      · split
        · rfl
        · omega
  obtain ⟨x1, x2, x3, x4, x5, x6, x7, x8⟩ := okJ_out (hok _ (List.getElem_mem hi))
  obtain ⟨y1, y2, y3, y4, y5, y6, y7, y8⟩ := okJ_out (hok _ (List.getElem_mem hk))
  have hi0 : (0 : Int) ≤ i := by omega
  have hi1 : (i : Int) < js.length := by omega
  have hk0 : (0 : Int) ≤ k := by omega
  have hk1 : (k : Int) < js.length := by omega
  clear hr hok
  generalize js[i] = x at *
  generalize js[k] = y at *
  have hbA : Below w.heap.size w (w.alloc (.cells #[.int .i64 (x.d - y.d), .int .i64 (x.t - y.t), .int .i64 ((i : Int) - k)] 3)) := (Below.refl _ _).alloc (Nat.le_refl _) _
  have HR : Hid (Row (w.alloc (.cells #[.int .i64 (x.d - y.d), .int .i64 (x.t - y.t), .int .i64 ((i : Int) - k)] 3)).drew (some ⟨w.heap.size, 0, none⟩) (ic [x.d - y.d, x.t - y.t, (i : Int) - k])) := (Row.new w 3 #[.int .i64 (x.d - y.d), .int .i64 (x.t - y.t), .int .i64 ((i : Int) - k)]).drew
  have HBA := Lib.hid hbA.drew
  clear hbA
  have wr1 := IntWalk.i64_in (x.d - y.d) (by omega)
  have wr2 := IntWalk.i64_in (x.t - y.t) (by omega)
  have wr3 := IntWalk.i64_in ((i : Int) - k) (by omega)
  go_enter Tryd.func62, Tryd.ntmps62
  go_wp2
  go_still_tail 25, (by kernel_rfl)
  go_wp2_with fail
  refine (cmpOr_any _ 3 [x.d - y.d, x.t - y.t, (i : Int) - k] _ HR.out (by simp)).mono ?_
  rintro e _ ⟨rfl, rfl⟩
  go_wp2
  go_ret
  exact ⟨by rw [HS.out]; rfl, HBA.out⟩
end
end Go.Proofs.YtnkoncplfedffaaDoor

namespace Go.Proofs.YtnkoncplfedffaaDoor
section
variable (ob : Int) (js : List J)
def isortTo (q : List Nat) (k : Nat) : List Nat := (q.take k).foldl (fun acc x => insN ob js x acc) []
def isortL (q : List Nat) : List Nat := isortTo ob js q q.length
theorem isortTo_succ (q : List Nat) {k : Nat} (h : k < q.length) : isortTo ob js q (k + 1) = insN ob js q[k] (isortTo ob js q k) := by
  unfold isortTo
  rw [List.take_succ_eq_append_getElem h, List.foldl_append]; rfl
theorem isortTo_all (q : List Nat) {k : Nat} (h : q.length ≤ k) : isortTo ob js q k = isortL ob js q := by
  unfold isortL isortTo
  rw [List.take_of_length_le h, List.take_of_length_le (Nat.le_refl _)]
theorem isortTo_one (q : List Nat) : isortTo ob js q 1 ++ q.drop 1 = q := by
  cases q with
  | nil => rfl
  | cons x q => rfl
theorem foldl_ins_perm : ∀ (l acc : List Nat), (l.foldl (fun acc x => insN ob js x acc) acc).Perm (l ++ acc)
  | [], acc => List.Perm.refl _
  | x :: l, acc => by
    rw [List.foldl_cons]
    refine (foldl_ins_perm l _).trans ?_
    refine (List.Perm.append_left l (insN_perm ob js x acc)).trans ?_
    exact List.perm_middle
theorem isortTo_perm (q : List Nat) (k : Nat) : (isortTo ob js q k).Perm (q.take k) := by
  have := foldl_ins_perm ob js (q.take k) []
  rwa [List.append_nil] at this
theorem isortTo_len (q : List Nat) {k : Nat} (h : k ≤ q.length) : (isortTo ob js q k).length = k := by
  have := (isortTo_perm ob js q k).length_eq
  rw [this, List.length_take]; omega
theorem isortL_perm (q : List Nat) : (isortL ob js q).Perm q := by
  have := isortTo_perm ob js q q.length
  rwa [List.take_of_length_le (Nat.le_refl _)] at this
theorem isortL_len (q : List Nat) : (isortL ob js q).length = q.length := (isortL_perm ob js q).length_eq
theorem isort_ruled : ∀ (k n : Nat), k ≤ n → isortTo ob js (List.range n) k = ruledTo ob js k
  | 0, n, _ => rfl
  | k + 1, n, h => by
    rw [isortTo_succ ob js (List.range n) (k := k) (by simp; omega), isort_ruled k n (by omega)]
    simp [ruledTo]
theorem isortL_ruled : isortL ob js (List.range js.length) = ruledL ob js := by
  unfold isortL ruledL
  rw [List.length_range]; exact isort_ruled ob js _ _ (Nat.le_refl _)
end
section
variable {ob : Int} {js : List J}
theorem foldl_ins_sorted (hg : ∀ j ∈ js, okJ j = true) : ∀ (l acc : List Nat), (∀ x ∈ l, x < js.length) → (∀ x ∈ acc, x < js.length) → SortedN ob js acc → SortedN ob js (l.foldl (fun acc x => insN ob js x acc) acc)
  | [], _, _, _, h => h
  | x :: l, acc, hl, ha, h => by
    rw [List.foldl_cons]
    refine foldl_ins_sorted hg l _ (fun y hy => hl y (List.mem_cons_of_mem _ hy)) (fun y hy => ?_) (insN_sorted hg (hl x List.mem_cons_self) ha h)
    rcases List.mem_cons.1 ((insN_perm ob js x acc).mem_iff.1 hy) with e | e
    · subst e; exact hl y List.mem_cons_self
    · exact ha y e
theorem isortTo_sorted (hg : ∀ j ∈ js, okJ j = true) {q : List Nat} (hq : ∀ x ∈ q, x < js.length) (k : Nat) : SortedN ob js (isortTo ob js q k) :=
  foldl_ins_sorted hg _ _ (fun x hx => hq x (List.mem_of_mem_take hx)) (by simp) List.Pairwise.nil
theorem isortTo_lt {q : List Nat} (hq : ∀ x ∈ q, x < js.length) {k x : Nat} (hx : x ∈ isortTo ob js q k) : x < js.length := hq x (List.mem_of_mem_take ((isortTo_perm ob js q k).mem_iff.1 hx))
end
/-- The list while one job moves forward. -/
def midL (out rest : List Nat) (x j : Nat) : List Nat := out.take j ++ x :: (out.drop j ++ rest)
theorem midL_len (out rest : List Nat) (x : Nat) {j : Nat} (h : j ≤ out.length) : (midL out rest x j).length = out.length + 1 + rest.length := by unfold midL; simp; omega
theorem midL_at (out rest : List Nat) (x : Nat) {j : Nat} (h : j ≤ out.length) : (midL out rest x j)[j]? = some x := by
  unfold midL
  rw [List.getElem?_append_right (by simp; omega)]
  have : (out.take j).length = j := by simp; omega
  rw [this, Nat.sub_self]; rfl
theorem midL_prev (out rest : List Nat) (x : Nat) {j : Nat} (h : j < out.length) : (midL out rest x (j + 1))[j]? = some out[j] := by
  unfold midL
  rw [List.getElem?_append_left (by simp; omega), List.getElem?_take, if_pos (by omega), List.getElem?_eq_getElem h]
theorem midL_swap (out rest : List Nat) (x : Nat) {j : Nat} (h : j < out.length) : ((midL out rest x (j + 1)).set (j + 1) out[j]).set j x = midL out rest x j := by
  unfold midL
  have e1 : out.take (j + 1) = out.take j ++ [out[j]] := List.take_succ_eq_append_getElem h
  have e2 : out.drop j = out[j] :: out.drop (j + 1) := List.drop_eq_getElem_cons h
  have hl : (out.take j).length = j := by simp; omega
  rw [e1, List.append_assoc, List.set_append_right _ _ (by omega), List.set_append_right _ _ (by omega), hl]
  rw [show j + 1 - j = 1 by omega, Nat.sub_self, e2]
  rfl
theorem midL_start (out rest : List Nat) (x : Nat) : midL out rest x out.length = out ++ x :: rest := by unfold midL; simp
end Go.Proofs.YtnkoncplfedffaaDoor

namespace Go.Proofs.YtnkoncplfedffaaDoor
theorem soon_asym {js : List J} {i k : Nat} (h : soonB js i k = true) : soonB js k i = false := by
  rw [cmpD_soon] at *
  have h1 := of_decide_eq_true h
  refine decide_eq_false ?_
  unfold cmpD at *
  split at h1 <;> split <;> first | omega | (split at h1 <;> split <;> omega)
def SoonL (js : List J) (l : List Nat) : Prop := l.Pairwise fun a b => soonB js a b = true
theorem insD_sorted {js : List J} {x : Nat} : ∀ {ys : List Nat}, SoonL js ys → x ∉ ys → SoonL js (insD js x ys)
  | [], _, _ => by unfold insD; exact List.pairwise_singleton _ _
  | y :: ys, h, hx => by
    obtain ⟨h1, h2⟩ := List.pairwise_cons.1 h
    unfold insD
    split
    · rename_i hy
      refine List.pairwise_cons.2 ⟨fun z hz => ?_, insD_sorted h2 (fun e => hx (List.mem_cons_of_mem _ e))⟩
      rcases List.mem_cons.1 ((insD_perm js x ys).mem_iff.1 hz) with e | e
      · rw [e]; exact hy
      · exact h1 z e
    · rename_i hy
      have hxy : soonB js x y = true := soon_total (fun e => hx (by rw [← e]; exact List.mem_cons_self)) (by simpa using hy)
      refine List.pairwise_cons.2 ⟨fun z hz => ?_, h⟩
      rcases List.mem_cons.1 hz with e | e
      · rw [e]; exact hxy
      · exact soon_trans hxy (h1 z e)
theorem dueTo_fresh {js : List J} {l : List Nat} (hd : l.Nodup) {k : Nat} (hk : k < l.length) : l[k] ∉ dueTo js l k := fun h => by
  have h1 := (dueTo_perm js l k (by omega)).mem_iff.1 h
  obtain ⟨i, hi, he⟩ := List.mem_iff_getElem.1 h1
  rw [List.getElem_take] at he
  rw [List.length_take] at hi
  have := (List.getElem_inj hd).1 he
  omega
theorem dueTo_sorted {js : List J} {l : List Nat} (hd : l.Nodup) : ∀ k, k ≤ l.length → SoonL js (dueTo js l k)
  | 0, _ => List.Pairwise.nil
  | k + 1, h => by
    have e : l.getD k 0 = l[k] := by simp [List.getD, show k < l.length by omega]
    unfold dueTo
    rw [e]
    exact insD_sorted (dueTo_sorted hd k (by omega)) (dueTo_fresh hd (by omega))
theorem dueTo_succ {js : List J} {l : List Nat} {k : Nat} (hk : k < l.length) : dueTo js l (k + 1) = insD js l[k] (dueTo js l k) := by
  have e : l.getD k 0 = l[k] := by simp [List.getD, hk]
  rw [← e]; rfl
theorem dueTo_one (js : List J) (q : List Nat) : dueTo js q 1 ++ q.drop 1 = q ∨ q = [] := by
  cases q with
  | nil => exact .inr rfl
  | cons x q => exact .inl rfl
/-- Put in from the back. -/
theorem insD_back {js : List J} {x : Nat} {out : List Nat} (hs : SoonL js out) (hx : x ∉ out) {j : Nat} (hj : j ≤ out.length) (h1 : ∀ h : 0 < j, soonB js x (out[j - 1]'(by omega)) = false) (h2 : ∀ i (h : i < out.length), j ≤ i → soonB js x out[i] = true) : insD js x out = out.take j ++ [x] ++ out.drop j := by
  refine insD_at js x out j hj (fun a ha => ?_) (fun h => soon_asym (h2 j h (Nat.le_refl _)))
  obtain ⟨i, hi, rfl⟩ := List.mem_iff_getElem.1 ha
  rw [List.length_take] at hi
  rw [List.getElem_take]
  have hj0 : 0 < j := by omega
  have hlast : soonB js (out[j - 1]'(by omega)) x = true := soon_total (fun e => hx (by rw [e]; exact List.getElem_mem _)) (h1 hj0)
  by_cases e : i = j - 1
  · subst e; exact hlast
  · exact soon_trans (List.pairwise_iff_getElem.1 hs i (j - 1) (by omega) (by omega) (by omega)) hlast
end Go.Proofs.YtnkoncplfedffaaDoor

namespace Go.Proofs.YtnkoncplfedffaaDoor
open Go.RowKit

/-- The cells of a slice of slices: where each one lies. -/
def slC (vs : List (Option Addr × Nat)) (css : List (List Value)) : List Value := List.zipWith (fun v cs => Value.slice v.1 cs.length v.2) vs css
theorem slC_len {vs : List (Option Addr × Nat)} {css : List (List Value)} (h : vs.length = css.length) : (slC vs css).length = css.length := by unfold slC; simp [h]
theorem slC_get {vs : List (Option Addr × Nat)} {css : List (List Value)} (h : vs.length = css.length) {i : Nat} (hi : i < css.length) : (slC vs css)[i]'(by rw [slC_len h]; exact hi) = .slice (vs[i]'(by omega)).1 css[i].length (vs[i]'(by omega)).2 := by unfold slC; simp
/-- What lies where a slice of slices is read. -/
def RowSS (w : World) (A : Option Addr) (css : List (List Value)) : Prop := ∃ vs : List (Option Addr × Nat), vs.length = css.length ∧ Row w A (slC vs css) ∧ ∀ (i : Nat) (h : i < css.length) (h' : i < vs.length), Row w vs[i].1 css[i]
/-- A slice of slices of one's own, from lo on and below hi, no two of them in one block. -/
def SegSS (w : World) (lo hi : Nat) (A : Option Addr) (n c : Nat) (css : List (List Value)) : Prop := n = css.length ∧ ∃ vs : List (Option Addr × Nat), vs.length = css.length ∧ Seg w 30 1 lo hi A n c (slC vs css) ∧
  (∀ (i : Nat) (h : i < css.length) (h' : i < vs.length), Seg w 3 1 lo hi vs[i].1 css[i].length vs[i].2 css[i]) ∧
  ∀ (i j : Nat) (h : i < vs.length) (h' : j < vs.length) (a b : Addr), i ≠ j → vs[i].1 = some a → vs[j].1 = some b → a.block ≠ b.block
def totC (css : List (List Value)) : Nat := (css.map List.length).sum
section
variable {w w' : World} {lo hi : Nat} {A : Option Addr} {n c : Nat} {css : List (List Value)}
theorem SegSS.row (h : SegSS w lo hi A n c css) : RowSS w A css := by
  obtain ⟨_, vs, h1, h2, h3, _⟩ := h
  exact ⟨vs, h1, h2.row, fun i a b => (h3 i a b).row⟩
theorem SegSS.keep {a b : Nat} (h : SegSS w lo hi A n c css) (ht : Touch a b w w') (hd : hi ≤ a ∨ b ≤ lo) : SegSS w' lo hi A n c css := by
  obtain ⟨h0, vs, h1, h2, h3, h4⟩ := h
  exact ⟨h0, vs, h1, h2.keep ht hd, fun i a b => (h3 i a b).keep ht hd, h4⟩
theorem SegSS.below (h : SegSS w lo hi A n c css) (hb : Below w.heap.size w w') : SegSS w' lo hi A n c css := by
  obtain ⟨h0, vs, h1, h2, h3, h4⟩ := h
  exact ⟨h0, vs, h1, h2.below hb, fun i a b => (h3 i a b).below hb, h4⟩
theorem SegSS.fit (h : SegSS w lo hi A n c css) : hi ≤ w.heap.size := by
  obtain ⟨_, vs, _, h2, _⟩ := h
  exact h2.fit
theorem RowSS.below (h : RowSS w A css) (hb : Below w.heap.size w w') : RowSS w' A css := by
  obtain ⟨vs, h1, h2, h3⟩ := h
  exact ⟨vs, h1, h2.below hb, fun i a b => (h3 i a b).below hb⟩
theorem RowSS.at_ {w : World} {A : Option Addr} {css : List (List Value)} (h : RowSS w A css) {k : Nat} (hk : k < css.length) : ∃ ad B d, A = some ad ∧ w.cell? (ad.add k) = some (.slice B css[k].length d) ∧ Row w B css[k] := by
  obtain ⟨vs, h1, h2, h3⟩ := h
  obtain ⟨ad, e, hc⟩ := h2.at_ (k := k) (by rw [slC_len h1]; exact hk)
  rw [slC_get h1 hk] at hc
  exact ⟨ad, _, _, e, hc, h3 k hk (by omega)⟩
end
/-- The marks of a slice of slices, from a number on. -/
def marksSS : Nat → List Nat → List (List Value)
  | _, [] => []
  | k, n :: ns => marksI k n :: marksSS (k + n) ns
theorem marksSS_len : ∀ (k : Nat) (ns : List Nat), (marksSS k ns).length = ns.length
  | _, [] => rfl
  | k, n :: ns => by simp [marksSS, marksSS_len (k + n) ns]
theorem marksSS_get : ∀ (k : Nat) (ns : List Nat) (i : Nat) (h : i < ns.length), (marksSS k ns)[i]'(by rw [marksSS_len]; exact h) = marksI (k + (ns.take i).sum) ns[i]
  | k, n :: ns, 0, _ => by simp [marksSS]
  | k, n :: ns, i + 1, h => by
    simp only [marksSS, List.getElem_cons_succ, List.take_succ_cons, List.sum_cons]
    rw [marksSS_get (k + n) ns i (by simpa using h), Nat.add_assoc]
theorem take_sum (ns : List Nat) : ∀ i, (ns.take i).sum ≤ ns.sum := by
  induction ns with
  | nil => intro i; simp
  | cons n ns ih =>
    intro i
    cases i with
    | zero => simp
    | succ i => have := ih i; simp; omega
theorem take_sum_succ (ns : List Nat) (i : Nat) (h : i < ns.length) : (ns.take (i + 1)).sum = (ns.take i).sum + ns[i] := by
  rw [List.take_succ_eq_append_getElem h, List.sum_append]; simp
/-- The first k are marked, the others are as they were. -/
def mixSS (k0 m : Nat) (css : List (List Value)) : List (List Value) := (marksSS k0 (css.map List.length)).take m ++ css.drop m
theorem mixSS_len (k0 m : Nat) (css : List (List Value)) (h : m ≤ css.length) : (mixSS k0 m css).length = css.length := by
  unfold mixSS; simp [marksSS_len]; omega
theorem mixSS_get {k0 m : Nat} {css : List (List Value)} (hm : m ≤ css.length) {i : Nat} (hi : i < css.length) : (mixSS k0 m css)[i]'(by rw [mixSS_len _ _ _ hm]; exact hi) = if i < m then marksI (k0 + ((css.map List.length).take i).sum) css[i].length else css[i] := by
  have hl : (marksSS k0 (css.map List.length)).length = css.length := by rw [marksSS_len]; simp
  by_cases h : i < m
  · rw [if_pos h]
    unfold mixSS
    rw [List.getElem_append_left (by simp [hl]; omega), List.getElem_take, marksSS_get _ _ _ (by simpa using hi)]
    simp
  · rw [if_neg h]
    unfold mixSS
    have h2 : ((marksSS k0 (css.map List.length)).take m).length = m := by simp [hl]; omega
    rw [List.getElem_append_right (by omega)]
    simp only [h2, List.getElem_drop]
    congr 1
    omega
theorem mixSS_zero (k0 : Nat) (css : List (List Value)) : mixSS k0 0 css = css := by unfold mixSS; simp
theorem mixSS_all (k0 : Nat) (css : List (List Value)) : mixSS k0 css.length css = marksSS k0 (css.map List.length) := by
  unfold mixSS
  rw [List.take_of_length_le (by rw [marksSS_len]; simp), List.drop_length, List.append_nil]
theorem mixSS_lens (k0 m : Nat) (css : List (List Value)) (hm : m ≤ css.length) : ∀ i (hi : i < css.length), ((mixSS k0 m css)[i]'(by rw [mixSS_len _ _ _ hm]; exact hi)).length = css[i].length := by
  intro i hi
  rw [mixSS_get hm hi]
  split
  · rw [marksI_len]
  · rfl
theorem Seg.keep_block {w w' : World} {e : TypeId} {size lo hi : Nat} {A : Option Addr} {n c : Nat} {cs : List Value} (h : Seg w e size lo hi A n c cs) (hs : hi ≤ w'.heap.size) (hk : ∀ g cur, A = some ⟨g, 0, none⟩ → BlockIs w g e cur → w'.heap[g]? = w.heap[g]?) : Seg w' e size lo hi A n c cs := by
  refine ⟨⟨h.own.1, ?_⟩, h.top, hs⟩
  rcases h.own.2 with ⟨hv, h0⟩ | ⟨g, cap, cur, hv, hb, hg, hr⟩
  · exact .inl ⟨hv, h0⟩
  · have hA : A = some ⟨g, 0, none⟩ := by injection hv
    exact .inr ⟨g, cap, cur, hv, hb, (hk g cur hA hg).trans hg, hr⟩
/-- As SegSS, where each one lies being known. -/
def SegV (vs : List (Option Addr × Nat)) (w : World) (lo hi : Nat) (A : Option Addr) (n c : Nat) (css : List (List Value)) : Prop := n = css.length ∧ vs.length = css.length ∧ Seg w 30 1 lo hi A n c (slC vs css) ∧
  (∀ (i : Nat) (h : i < css.length) (h' : i < vs.length), Seg w 3 1 lo hi vs[i].1 css[i].length vs[i].2 css[i]) ∧
  ∀ (i j : Nat) (h : i < vs.length) (h' : j < vs.length) (a b : Addr), i ≠ j → vs[i].1 = some a → vs[j].1 = some b → a.block ≠ b.block
theorem slC_same {vs : List (Option Addr × Nat)} {css dss : List (List Value)} (h : vs.length = css.length) (hl : dss.length = css.length) (he : ∀ i (hi : i < css.length), (dss[i]'(by omega)).length = css[i].length) : slC vs dss = slC vs css := by
  apply List.ext_getElem
  · rw [slC_len (by omega), slC_len h, hl]
  · intro i h1 h2
    rw [slC_len h] at h2
    rw [slC_get (by omega) (by omega), slC_get h h2, he i h2]
theorem segV_mark {vs : List (Option Addr × Nat)} {w w' : World} {lo hi : Nat} {A : Option Addr} {n c : Nat} {css : List (List Value)} {k0 m : Nat} (hm : m < css.length) (h : SegV vs w lo hi A n c (mixSS k0 m css)) (hv : vs.length = css.length)
    (ho : w'.ownsRow lo 3 1 (.slice (vs[m]'(by omega)).1 css[m].length (vs[m]'(by omega)).2) css[m].length (marksI (k0 + ((css.map List.length).take m).sum) css[m].length)) (hg : w.grownBy w' (Value.slice (vs[m]'(by omega)).1 css[m].length (vs[m]'(by omega)).2).ownBlock) (hs : w'.heap.size = w.heap.size) : SegV vs w' lo hi A n c (mixSS k0 (m + 1) css) := by
  obtain ⟨h0, h1, h2, h3, h4⟩ := h
  have e0 := mixSS_len k0 m css (by omega)
  have e1 := mixSS_len k0 (m + 1) css (by omega)
  have hfit := h2.fit
  have hself := h3 m (by omega) (by omega)
  have hE : slC vs (mixSS k0 (m + 1) css) = slC vs (mixSS k0 m css) := slC_same (by omega) (by omega) fun i hi => by
    rw [mixSS_lens k0 (m + 1) css (by omega) i (by omega), mixSS_lens k0 m css (by omega) i (by omega)]
  have hown : ∀ g, g < w.heap.size → (∀ a, (vs[m]'(by omega)).1 = some a → a.block ≠ g) → w'.heap[g]? = w.heap[g]? := fun g hgl hne => by
    refine hg.block g hgl fun e => ?_
    cases ha : (vs[m]'(by omega)).1 with
    | none => rw [ha] at e; cases e
    | some a =>
      rw [ha] at e
      have : a.block = g := by injection e with e; exact e.symm
      exact hne a ha this
  refine ⟨by omega, by omega, ?_, ?_, h4⟩
  · rw [hE]
    refine h2.keep_block (by omega) fun g cur hA hB => hown g hB.lt fun a ha e => ?_
    subst e
    rcases hself.own.2 with ⟨hv0, _⟩ | ⟨g', cap, cur', hv0, _, hg', _⟩
    · injection hv0 with hv0; rw [ha] at hv0; cases hv0
    · injection hv0 with hv0
      rw [ha] at hv0
      injection hv0 with hv0
      subst hv0
      unfold BlockIs at hB
      simp only at hB
      rw [hg'] at hB
      injection hB with hB
      injection hB with _ h5 _
      exact absurd h5 (by decide)
  · intro i hi' hiv
    by_cases e : i = m
    · subst e
      have := mixSS_get (k0 := k0) (m := i + 1) (css := css) (by omega) (i := i) (by omega)
      rw [if_pos (by omega)] at this
      have hl := mixSS_lens k0 (i + 1) css (by omega) i (by omega)
      rw [this]
      rw [this, marksI_len] at hl
      simp only [marksI_len]
      exact ⟨ho, (by
        intro ad ha
        exact hself.top ad ha), by omega⟩
    · have g1 := mixSS_get (k0 := k0) (m := m + 1) (css := css) (by omega) (i := i) (by omega)
      have g2 := mixSS_get (k0 := k0) (m := m) (css := css) (by omega) (i := i) (by omega)
      have hsame : (mixSS k0 (m + 1) css)[i]'(by omega) = (mixSS k0 m css)[i]'(by omega) := by
        rw [g1, g2]
        by_cases hh : i < m
        · rw [if_pos hh, if_pos (by omega)]
        · rw [if_neg hh, if_neg (by omega)]
      rw [hsame]
      refine (h3 i (by omega) hiv).keep_block (by omega) fun g cur hA hB => hown g hB.lt fun a ha e' => ?_
      exact h4 m i (by omega) hiv a ⟨g, 0, none⟩ (fun e2 => e e2.symm) ha hA e'
/-- What a function hands back: a list of lists of ints, memory of its own, and a bool. -/
def RetSSB (w : World) (r : List (List Int) × Bool) (e : Ending) (w' : World) : Prop :=
  ∃ A c, e = .returned (.tuple #[.slice A r.1.length c, .bool r.2]) ∧ SegSS w' w.heap.size w'.heap.size A r.1.length c (r.1.map ic) ∧ Below w.heap.size w w'
end Go.Proofs.YtnkoncplfedffaaDoor

namespace Go.Proofs.YtnkoncplfedffaaDoor
open Go.RowKit
section
variable {P : Program} (w : World)
/-- One more cell, or a few: the slice stays where it is, or lies in a new block. -/
theorem append_at (base : Nat) (t ty e : TypeId) (i : TypeInfo) (z : Value) (size bytes : Nat) (ht : P.underlying t = some (.slice e)) (hi : P.info? e = some i) (hz : i.zero = some z)
    (hsize : i.size = size) (hby : i.bytes = bytes) (hzs : z.cells.size = size) (hsz : 0 < size)
    (v : Value) (n : Nat) (xs : List Value) (hown : w.ownsRow base e size v n xs)
    (a : Addr) (m c : Nat) (news : List Value) (hl : news.length = m * size) (hnews : ∀ j u, news[j]? = some u → w.cell? (a.add j) = some u) (h1 : ∀ u ∈ news, u.oneCell' = true) (hm0 : 0 < m)
    (h63 : n + m ≤ maxLen) (hbytes : (n + m) * bytes ≤ 140737488355328) (hbase : base ≤ w.heap.size) :
    ∃ v' w', (Builtin.append_ #[t, t] ty #[v, .slice (some a) m c]).run P w = .ok v' w' ∧ w'.ownsRow base e size v' (n + m) (xs ++ news) ∧ w.grownBy w' v.ownBlock ∧ (v'.ownBlock = v.ownBlock ∨ v'.ownBlock = some w.heap.size) := by
  obtain ⟨v', w', hr, h2, h3, _⟩ := run_append_own (P := P) w base t ty e i z size bytes ht hi hz hsize hby hzs hsz v n xs hown a m c news hl hnews h1 h63 hbytes hbase
  refine ⟨v', w', hr, h2, h3, ?_⟩
  subst hsize hby
  have hml : n + m ≤ 9223372036854775807 := by simp only [maxLen] at h63; omega
  rcases id hown.2 with ⟨rfl, rfl⟩ | ⟨g, cap, cur, rfl, hbg, hg, hnc, hcm, hcs, htake⟩
  · have hr' := run_append_nil (P := P) w t ty e i z ht hi hz a m c news hl hnews hm0 (by omega) (by have hb := hbytes; simp only [Nat.zero_add] at hb; omega)
    rw [hr] at hr'
    injection hr' with hv
    subst hv
    exact .inr rfl
  · by_cases hroom : n + m ≤ cap
    · have hfit : n * i.size + news.length ≤ cur.size := by rw [hl, hcs, ← Nat.add_mul]; exact Nat.mul_le_mul_right _ hroom
      have hr' := run_append_room (P := P) w t ty e i ht hi g n cap cur hg a m c news hl hnews h1 hroom hfit
      rw [hr] at hr'
      injection hr' with hv
      subst hv
      exact .inl rfl
    · have hr' := run_append_grow (P := P) w t ty e i z ht hi hz ⟨g, 0, none⟩ n cap xs hown.1 (hown.cells (g := g) rfl) a m c news hl hnews (by omega) (by omega) (growslice_fits (by omega) hbytes)
      rw [hr] at hr'
      injection hr' with hv
      subst hv
      exact .inr rfl
theorem wpList_append_at {ops : Array Oper} {rest : List Oper} {o : Oper} {a : Act} {Q : Exit → Act → World → Prop} (hgd : o.guard = none) (s x : Operand) (t : TypeId)
    (ho : o.op = .call { callee := .builtin .append, args := #[s, x], argTypes := #[t, t] })
    (base : Nat) (e : TypeId) (i : TypeInfo) (z : Value) (size bytes : Nat) (ht : P.underlying t = some (.slice e)) (hi : P.info? e = some i) (hz : i.zero = some z)
    (hsize : i.size = size) (hby : i.bytes = bytes) (hzs : z.cells.size = size) (hsz : 0 < size)
    (v : Value) (n : Nat) (xs : List Value) (hs : a.eval s = v) (hown : w.ownsRow base e size v n xs)
    (ad : Addr) (m c : Nat) (news : List Value) (hx : a.eval x = .slice (some ad) m c) (hl : news.length = m * size) (hnews : ∀ j u, news[j]? = some u → w.cell? (ad.add j) = some u) (h1 : ∀ u ∈ news, u.oneCell' = true) (hm0 : 0 < m)
    (h63 : n + m ≤ maxLen) (hbytes : (n + m) * bytes ≤ 140737488355328) (hbase : base ≤ w.heap.size)
    (h : ∀ v' w', w'.ownsRow base e size v' (n + m) (xs ++ news) → w.grownBy w' v.ownBlock → (v'.ownBlock = v.ownBlock ∨ v'.ownBlock = some w.heap.size) → wpList P ops Q rest (a.put o.dst v') w') : wpList P ops Q (o :: rest) a w := by
  refine wpList_plain hgd fun K hK => ?_
  obtain ⟨v', w', hr, h2, h3, h4⟩ := append_at (P := P) w base t o.type e i z size bytes ht hi hz hsize hby hzs hsz v n xs hown ad m c news hl hnews h1 hm0 h63 hbytes hbase
  unfold Oper.wp execOp
  simp only [ho, resolve, invoke, builtin, Sem.run_bind, Sem.run_pure, Result.andThen_ok, List.map_toArray, List.map_cons, List.map_nil, hs, hx, hr]
  exact hK _ _ (h v' w' h2 h3 h4)
end
/-- What an append of one cell leaves, for a slice whose block may not be one other. -/
theorem app_grown {B : Nat} {e : TypeId} {size : Nat} {w wr w1 : World} {v : Value} {n : Nat} {xs : List Value} {o : Obj}
    (hB : Below B w wr) (hBw : B ≤ wr.heap.size) (hown : wr.ownsRow B e size v n xs) (hgrow : (wr.alloc o).grownBy w1 v.ownBlock) : Below B w w1 :=
  (hB.alloc hBw o).grown hgrow (by simp; omega) (fun j hj => (hown.lt j hj).1)
/-- A block that is not the slice's own stays. -/
theorem app_block {wr w1 : World} {v : Value} {o : Obj} {g : Nat} {t : TypeId} {cs : Array Value} (hb : BlockIs wr g t cs) (hgrow : (wr.alloc o).grownBy w1 v.ownBlock) (hne : v.ownBlock ≠ some g) : BlockIs w1 g t cs := by
  have h1 : BlockIs (wr.alloc o) g t cs := hb.below ((Below.refl _ _).alloc (Nat.le_refl _) o)
  exact (hgrow.block g h1.lt (fun e => hne e.symm)).trans h1
theorem app_ne {wr : World} {v v' : Value} {o : Obj} {g : Nat} (hg : g < wr.heap.size) (hne : v.ownBlock ≠ some g) (h : v'.ownBlock = v.ownBlock ∨ v'.ownBlock = some (wr.alloc o).heap.size) : v'.ownBlock ≠ some g := by
  rcases h with h | h
  · rw [h]; exact hne
  · rw [h]; intro e; injection e with e; simp at e; omega
end Go.Proofs.YtnkoncplfedffaaDoor

namespace Go.Proofs.YtnkoncplfedffaaDoor
open Go.RowKit
section
variable {w w' w1 : World} {B : Nat} {e : TypeId} {size : Nat} {v : Value} {n : Nat} {xs : List Value}
theorem own_to (h : w.ownsRow B e size v n xs) (hk : ∀ g, v.ownBlock = some g → B ≤ g → g < w.heap.size → w'.heap[g]? = w.heap[g]?) : w'.ownsRow B e size v n xs := by
  refine ⟨h.1, ?_⟩
  rcases h.2 with hn | ⟨g, cap, cur, hv, hB, hg, r⟩
  · exact .inl hn
  · exact .inr ⟨g, cap, cur, hv, hB, (hk g (by rw [hv]; rfl) hB (Array.getElem?_eq_some_iff.1 hg).1).trans hg, r⟩
theorem own_blw (h : w.ownsRow B e size v n xs) (hb : Below w.heap.size w w') : w'.ownsRow B e size v n xs := own_to h fun g _ _ hg => hb.block g hg
theorem own_low {B' : Nat} (h : w.ownsRow B' e size v n xs) (hB : B ≤ B') : w.ownsRow B e size v n xs :=
  ⟨h.1, h.2.imp id fun ⟨g, cap, cur, hv, hb, r⟩ => ⟨g, cap, cur, hv, Nat.le_trans hB hb, r⟩⟩
/-- The type of the block that a slice owns. -/
theorem own_type (h : w.ownsRow B e size v n xs) {g : Nat} (hg : v.ownBlock = some g) : g < w.heap.size ∧ B ≤ g ∧ ∃ cur, BlockIs w g e cur := by
  rcases h.2 with ⟨hv, _⟩ | ⟨g', cap, cur, hv, hB, hk, _⟩
  · rw [hv] at hg; cases hg
  · rw [hv] at hg
    have : g' = g := by injection hg
    subst this
    exact ⟨(Array.getElem?_eq_some_iff.1 hk).1, hB, cur, hk⟩
theorem type_ne {g g' : Nat} {t t' : TypeId} {cs cs' : Array Value} (h : BlockIs w g t cs) (h' : BlockIs w g' t' cs') (ht : t ≠ t') : g ≠ g' := fun e => by
  subst e
  unfold BlockIs at h h'
  rw [h] at h'
  injection h' with h'
  injection h' with _ h2 _
  exact ht h2
end
/-- A slice of slices of the call's own: where each one lies is known. -/
def OwnV (vs : List (Option Addr × Nat)) (B C : Nat) (w : World) (v : Value) (css : List (List Value)) : Prop := vs.length = css.length ∧ w.ownsRow B 30 1 v css.length (slC vs css) ∧
  (∀ (i : Nat) (h : i < css.length) (h' : i < vs.length), w.ownsRow C 3 1 (.slice vs[i].1 css[i].length vs[i].2) css[i].length css[i]) ∧
  ∀ (i j : Nat) (h : i < vs.length) (h' : j < vs.length) (a b : Addr), i ≠ j → vs[i].1 = some a → vs[j].1 = some b → a.block ≠ b.block
theorem OwnV.nil {B C : Nat} {w : World} {v : Value} (h : w.ownsRow B 30 1 v 0 []) : OwnV [] B C w v [] := ⟨rfl, h, (fun i h => by cases h), fun i j h => by cases h⟩
section
variable {vs : List (Option Addr × Nat)} {B C : Nat} {w w' w1 : World} {v v' : Value} {css : List (List Value)}
theorem OwnV.below (h : OwnV vs B C w v css) (hb : Below w.heap.size w w') : OwnV vs B C w' v css := by
  obtain ⟨h1, h2, h3, h4⟩ := h
  exact ⟨h1, own_blw h2 hb, fun i a b => own_blw (h3 i a b) hb, h4⟩
theorem OwnV.lower {C' : Nat} (h : OwnV vs B C' w v css) (hB : C ≤ C') : OwnV vs B C w v css := by
  obtain ⟨h1, h2, h3, h4⟩ := h
  exact ⟨h1, h2, fun i a b => own_low (h3 i a b) hB, h4⟩
theorem OwnV.seg (h : OwnV vs B C w v css) (hBC : B ≤ C) : ∃ A c, v = .slice A css.length c ∧ SegSS w B w.heap.size A css.length c css := by
  obtain ⟨h1, h2, h3, h4⟩ := h
  obtain ⟨A, c, rfl, hs⟩ := seg_out h2
  exact ⟨A, c, rfl, rfl, vs, h1, hs, fun i a b => Seg.of_own (own_low (h3 i a b) hBC), h4⟩
theorem OwnV.lt (h : OwnV vs B C w v css) (i : Nat) (hi : i < vs.length) {a : Addr} (ha : vs[i].1 = some a) : a.block < w.heap.size ∧ C ≤ a.block := by
  obtain ⟨h1, h2, h3, h4⟩ := h
  have := own_type (g := a.block) (h3 i (by omega) hi) (by rw [ha]; rfl)
  exact ⟨this.1, this.2.1⟩
theorem slC_snoc (vs : List (Option Addr × Nat)) (css : List (List Value)) (A : Option Addr) (c : Nat) (cs : List Value) (h : vs.length = css.length) : slC (vs ++ [(A, c)]) (css ++ [cs]) = slC vs css ++ [.slice A cs.length c] := by
  unfold slC
  rw [List.zipWith_append h]
  rfl
/-- One more slice, which lies where nothing lay, behind them. -/
theorem OwnV.push (h : OwnV vs B C w v css) (hb : Below w.heap.size w w') {g c : Nat} {cs : List Value} (hnew : w'.ownsRow C 3 1 (.slice (some ⟨g, 0, none⟩) cs.length c) cs.length cs) (hg : w.heap.size ≤ g)
    (ho : w1.ownsRow B 30 1 v' (css.length + 1) (slC vs css ++ [.slice (some ⟨g, 0, none⟩) cs.length c])) (hgr : w'.grownBy w1 v.ownBlock) : OwnV (vs ++ [(some ⟨g, 0, none⟩, c)]) B C w1 v' (css ++ [cs]) := by
  have h' := h.below hb
  have hlt := fun i hi a ha => h.lt i hi (a := a) ha
  obtain ⟨h1, h2, h3, h4⟩ := h'
  have hkeep : ∀ {u : Value} {n : Nat} {xs : List Value}, w'.ownsRow C 3 1 u n xs → w1.ownsRow C 3 1 u n xs := fun hu => own_to hu fun q hq _ hql => hgr.block q hql fun e => by
    obtain ⟨_, _, c1, t1⟩ := own_type hu hq
    obtain ⟨_, _, c2, t2⟩ := own_type h2 e.symm
    exact type_ne t1 t2 (by decide) rfl
  refine ⟨by simp [h1], ?_, ?_, ?_⟩
  · rw [slC_snoc _ _ _ _ _ h1]; simpa using ho
  · intro i hi hiv
    by_cases e : i < css.length
    · rw [List.getElem_append_left (by omega), List.getElem_append_left e]
      exact hkeep (h3 i e (by omega))
    · have : i = css.length := by simp at hi; omega
      subst this
      rw [List.getElem_append_right (by omega), List.getElem_append_right (by omega)]
      simp only [h1, Nat.sub_self, List.getElem_cons_zero]
      exact hkeep hnew
  · intro i j hi hj a b hne ha hb'
    by_cases ei : i < vs.length
    · rw [List.getElem_append_left ei] at ha
      by_cases ej : j < vs.length
      · rw [List.getElem_append_left ej] at hb'
        exact h4 i j ei ej a b hne ha hb'
      · have : j = vs.length := by simp at hj; omega
        subst this
        rw [List.getElem_append_right (by omega)] at hb'
        simp only [Nat.sub_self, List.getElem_cons_zero] at hb'
        injection hb' with hb'
        subst hb'
        have := (hlt i ei a ha).1
        show a.block ≠ g
        omega
    · have : i = vs.length := by simp at hi; omega
      subst this
      rw [List.getElem_append_right (by omega)] at ha
      simp only [Nat.sub_self, List.getElem_cons_zero] at ha
      injection ha with ha
      subst ha
      have ej : j < vs.length := by simp at hj; omega
      rw [List.getElem_append_left ej] at hb'
      have := (hlt j ej b hb').1
      show g ≠ b.block
      omega
theorem slC_set (vs : List (Option Addr × Nat)) (css : List (List Value)) (h : vs.length = css.length) (m : Nat) (A : Option Addr) (c : Nat) (cs : List Value) : (slC vs css).set m (.slice A cs.length c) = slC (vs.set m (A, c)) (css.set m cs) := by
  apply List.ext_getElem
  · rw [List.length_set, slC_len h, slC_len (by simpa using h)]; simp
  · intro i h1 h2
    rw [List.length_set, slC_len h] at h1
    rw [slC_get (by simpa using h) (by simpa using h1), List.getElem_set]
    by_cases e : m = i
    · subst e; simp
    · rw [if_neg e, slC_get h h1]
      simp [e]
theorem take_setv {cur : Array Value} {n i : Nat} {cs : List Value} (h : cur.toList.take n = cs) (hi : i < n) (v : Value) : (cur.setIfInBounds i v).toList.take n = cs.set i v := by
  subst h
  apply List.ext_getElem?
  intro j
  by_cases hj : j < n
  · rw [List.getElem?_take, if_pos hj, Array.getElem?_toList, Array.getElem?_setIfInBounds, List.getElem?_set]
    by_cases e : i = j
    · subst e
      by_cases hc : i < cur.size
      · simp [hc]; omega
      · simp [hc]; omega
    · rw [if_neg e, if_neg e, List.getElem?_take, if_pos hj, Array.getElem?_toList]
  · rw [List.getElem?_eq_none (by simp; omega), List.getElem?_eq_none (by simp; omega)]
/-- One of them is made longer, and stored where it stood. -/
theorem OwnV.ext (h : OwnV vs B C w v css) {g cap : Nat} (hv : v = .slice (some ⟨g, 0, none⟩) css.length cap) {m : Nat} (hm : m < css.length) (o : Obj) {A' : Option Addr} {c' : Nat} {cs : List Value}
    (ho : w1.ownsRow C 3 1 (.slice A' cs.length c') cs.length cs) (hgr : (w.alloc o).grownBy w1 (Value.slice (vs[m]'(by have := h.1; omega)).1 css[m].length (vs[m]'(by have := h.1; omega)).2).ownBlock)
    (hob : (Value.slice A' cs.length c').ownBlock = (Value.slice (vs[m]'(by have := h.1; omega)).1 css[m].length (vs[m]'(by have := h.1; omega)).2).ownBlock ∨ (Value.slice A' cs.length c').ownBlock = some (w.alloc o).heap.size) :
    OwnV (vs.set m (A', c')) B C (w1.setCell ⟨g, m, none⟩ (.slice A' cs.length c')) v (css.set m cs) ∧ w1.cell? ⟨g, m, none⟩ = some (.slice (vs[m]'(by have := h.1; omega)).1 css[m].length (vs[m]'(by have := h.1; omega)).2) ∧ w1.frozen? ⟨g, m, none⟩ = false ∧ B ≤ g := by
  have hlt := fun i hi a ha => h.lt i hi (a := a) ha
  obtain ⟨h1, h2, h3, h4⟩ := h
  have hself := h3 m hm (by omega)
  subst hv
  obtain ⟨hgl, hgB, _, htp⟩ := own_type (g := g) h2 rfl
  -- the outer block stays through the append
  have hkeep : ∀ q, q < w.heap.size → (∀ a, (vs[m]'(by omega)).1 = some a → a.block ≠ q) → w1.heap[q]? = w.heap[q]? := fun q hq hne => by
    have hq' : q < (w.alloc o).heap.size := by simp; omega
    have e1 : (w.alloc o).heap[q]? = w.heap[q]? := ((Below.refl w.heap.size w).alloc (Nat.le_refl _) o).block q hq
    refine (hgr.block q hq' fun e => ?_).trans e1
    cases ha : (vs[m]'(by omega)).1 with
    | none => rw [ha] at e; cases e
    | some a =>
      rw [ha] at e
      exact hne a ha (by injection e with e; exact e.symm)
  have hgo : w1.heap[g]? = w.heap[g]? := hkeep g hgl fun a ha e => by
    obtain ⟨_, _, c1, t1⟩ := own_type (g := a.block) hself (by rw [ha]; rfl)
    rw [e] at t1
    exact type_ne t1 htp (by decide) rfl
  have h2' : w1.ownsRow B 30 1 (.slice (some ⟨g, 0, none⟩) css.length cap) css.length (slC vs css) := own_to h2 fun q hq _ _ => by
    have : g = q := by injection hq
    rw [← this]; exact hgo
  obtain ⟨g', cur, hA, hgb, hB, hn, hc, hs, ht⟩ := own_block h2' (by omega)
  injection hA with hA
  injection hA with hA _ _
  subst hA
  have hcell : cur[m]? = some (.slice (vs[m]'(by omega)).1 css[m].length (vs[m]'(by omega)).2) := by
    have := congrArg (fun l : List Value => l[m]?) ht
    simp only [Nat.mul_one] at this
    rw [List.getElem?_take, if_pos hm, Array.getElem?_toList, List.getElem?_eq_getElem (by rw [slC_len h1]; exact hm), slC_get h1 hm] at this
    exact this
  refine ⟨⟨by simp [h1], ?_, ?_, ?_⟩, ?_, hB.frozen m, hgB⟩
  · rw [← slC_set vs css h1 m]
    have hset := hB.set m (.slice A' cs.length c')
    have := hset.own (base := B) (n := css.length) (c := cap) (size := 1) hgb (by simpa using hs) hn hc (by simp only [Array.size_setIfInBounds]; omega)
    rw [Nat.mul_one, take_setv (cs := slC vs css) (show cur.toList.take css.length = slC vs css by rw [Nat.mul_one] at ht; exact ht) hm] at this
    simpa using this
  · intro i hi hiv
    simp only [List.length_set] at hi hiv
    have hstep : ∀ {u : Value} {n : Nat} {xs : List Value}, w1.ownsRow C 3 1 u n xs → (w1.setCell ⟨g, m, none⟩ (.slice A' cs.length c')).ownsRow C 3 1 u n xs := fun hu => own_to hu fun q hq _ _ => by
      obtain ⟨_, _, c1, t1⟩ := own_type hu hq
      exact Below.heap_setCell _ _ _ _ (type_ne t1 hB (by decide))
    by_cases e : m = i
    · subst e
      simp only [List.getElem_set_self]
      exact hstep ho
    · rw [List.getElem_set_ne e, List.getElem_set_ne e]
      refine hstep (own_to (h3 i hi hiv) fun q hq _ hql => hkeep q hql fun a ha e' => ?_)
      cases hb : vs[i].1 with
      | none => rw [hb] at hq; cases hq
      | some b =>
        rw [hb] at hq
        have : b.block = q := by injection hq
        exact h4 m i (by omega) hiv a b e ha hb (by omega)
  · intro i j hi hj a b hne ha hb
    simp only [List.length_set] at hi hj
    have hnew : ∀ q (hq : q < vs.length) (b : Addr), q ≠ m → vs[q].1 = some b → ∀ a', A' = some a' → a'.block ≠ b.block := fun q hq b hqm hb a' ha' e' => by
      rcases hob with e | e
      · rw [ha'] at e
        cases hm' : (vs[m]'(by omega)).1 with
        | none => rw [hm'] at e; cases e
        | some am =>
          rw [hm'] at e
          have : a'.block = am.block := by injection e
          exact h4 m q (by omega) hq am b (fun x => hqm x.symm) hm' hb (by omega)
      · rw [ha'] at e
        have : a'.block = (w.alloc o).heap.size := by injection e
        have := (hlt q hq b hb).1
        simp at *
        omega
    by_cases ei : m = i
    · subst ei
      rw [List.getElem_set_self] at ha
      rw [List.getElem_set_ne hne] at hb
      exact hnew j hj b (fun x => hne x.symm) hb a ha
    · rw [List.getElem_set_ne ei] at ha
      by_cases ej : m = j
      · subst ej
        rw [List.getElem_set_self] at hb
        exact fun e' => hnew i hi a (fun x => hne x) ha b hb e'.symm
      · rw [List.getElem_set_ne ej] at hb
        exact h4 i j hi hj a b hne ha hb
  · rw [hB.cell]; exact hcell
end
end Go.Proofs.YtnkoncplfedffaaDoor

namespace Go.Proofs.YtnkoncplfedffaaDoor
open Go.RowKit Go.Shelf
theorem cells_ofD {w : World} {g : Nat} {cur : Array Value} {n : Nat} {l : List Nat} (hB : BlockIs w g 3 cur) (ht : cur.toList.take n = ic (natI l)) {i x : Nat} (hi : l[i]? = some x) (hn : i < n) : w.cell? ⟨g, i, none⟩ = some (.int .i64 (x : Int)) := by
  rw [hB.cell]
  have h1 : (cur.toList.take n)[i]? = some (.int .i64 (x : Int)) := by
    rw [ht]; unfold ic natI
    simp [hi]
  rw [List.getElem?_take, if_pos hn, Array.getElem?_toList] at h1
  exact h1
theorem ic_setD (l : List Nat) (i x : Nat) : (ic (natI l)).set i (.int .i64 (x : Int)) = ic (natI (l.set i x)) := by
  unfold ic natI
  rw [List.map_set, List.map_set]; rfl
/-- What stands in the block while the sort runs; comparisons may make memory. -/
def SrtIs (w0 w : World) (g n : Nat) (sz : Nat) (l : List Nat) : Prop := ∃ cur, BlockIs w g 3 cur ∧ cur.size = sz ∧ cur.toList.take n = ic (natI l) ∧ w0.grownBy w (some g)
theorem SrtIs.below {w0 w w' : World} {g n sz : Nat} {l : List Nat} (h : SrtIs w0 w g n sz l) (hb : Below w.heap.size w w') : SrtIs w0 w' g n sz l := by
  obtain ⟨cur, h1, h2, h3, h4⟩ := h
  exact ⟨cur, h1.below hb, h2, h3, grown_then_below h4 hb⟩
theorem SrtIs.drew {w0 w : World} {g n sz : Nat} {l : List Nat} (h : SrtIs w0 w g n sz l) (m : Nat) : SrtIs w0 (w.drewN m) g n sz l := h.below (below_drewN (Below.refl _ _) m)
theorem SrtIs.drew1 {w0 w : World} {g n sz : Nat} {l : List Nat} (h : SrtIs w0 w g n sz l) : SrtIs w0 w.drew g n sz l := h.below (Below.refl _ _).drew
theorem SrtIs.set {w0 w : World} {g n sz : Nat} {l : List Nat} (h : SrtIs w0 w g n sz l) (i x : Nat) (hi : i < n) : SrtIs w0 (w.setCell ⟨g, i, none⟩ (.int .i64 (x : Int))) g n sz (l.set i x) := by
  obtain ⟨cur, h1, h2, h3, h4⟩ := h
  exact ⟨_, h1.set i _, by simpa using h2, by rw [take_setv h3 hi, ic_setD], grown_setCell h4 i _⟩
abbrev FCD : Nat := 62
section
variable {js : List J} {A : Option Addr} {c : Nat} (hok : ∀ j ∈ js, okJ j = true) (h8 : js.length ≤ 8)
include hok h8
set_option maxRecDepth 100000 in
set_option maxHeartbeats 4000000 in
theorem insSortD_any (w : World) (hr : Row w A (jc js)) (g cs sz : Nat) (q : List Nat) (hq : ∀ x ∈ q, x < js.length) (hd : q.Nodup) (hl : q.length ≤ 12) (hs : SrtIs w w g q.length sz q) (hA : 0 < js.length → ∀ a, A = some a → a.block ≠ g) :
    Calls Tryd.prog 103 #[.slice (some ⟨g, 0, none⟩) q.length cs, .int .i64 0, .int .i64 (q.length : Int), .func (.func FCD) #[.slice A js.length c] #[]] w fun e w' => e = .returned (.tuple #[]) ∧ SrtIs w w' g q.length sz (dueL js q) := by
  have HCW : Hid (∀ w' : World, w.grownBy w' (some g) → Row w' A (jc js)) := fun w' hg => fun h0 => by
    obtain ⟨ad, h1, h2, h3⟩ := hr h0
    refine ⟨ad, h1, Nat.lt_of_lt_of_le h2 hg.size, fun j u hu => ?_⟩
    have hc := h3 j u hu
    rw [← hc]
    have hbk : (ad.add j).block = ad.block := add_block ad j
    have hh := hg.block (ad.add j).block (by rw [hbk]; exact h2) (fun e => hA (by rw [jc_len] at h0; omega) ad h1 (by injection e with e; rw [hbk] at e; exact e))
    unfold World.cell?
    rw [hh]
  have HS0 : Hid (SrtIs w w g q.length sz (dueTo js q 1 ++ q.drop 1) ∨ q.length = 0) := by
    show _ ∨ _
    rcases dueTo_one js q with h | h
    · rw [h]; exact .inl hs
    · exact .inr (by rw [h]; rfl)
  have hcf : ∀ (args : Array Value) (w1 : World), (callFunc FCD args).run Tryd.prog w1 = .ok (.enter FCD args) w1 := enters_of Tryd.func62 (by kernel_rfl) rfl
  have HS := Lib.hid hs
  have HD0 := Lib.hid hd
  clear hr hs hd
  by_cases hq0 : q.length = 0
  · have hql : q = [] := List.eq_nil_of_length_eq_zero hq0
    have HF : Hid (SrtIs w w g q.length sz (dueL js q)) := by
      show SrtIs _ _ _ _ _ _
      have h := HS.out
      rw [hql] at h ⊢
      exact h
    have hlt0 : ¬ (1 : Int) < (q.length : Int) := by omega
    have hqz : (q.length : Int) ≤ 0 := by omega
    clear hq0 hql HS0
    go_enter Tryd.func103, Tryd.ntmps103
    go_wp2
    refine wp_loop_rounds 1 ?_
    rw [rounds_succ]
    go_wp2
    go_end0
    exact ⟨rfl, HF.out⟩
  have HS1 : Hid (SrtIs w w g q.length sz (dueTo js q 1 ++ q.drop 1)) := by
    rcases HS0.out with h | h
    · exact h
    · exact absurd h hq0
  clear HS0 HS
  go_enter Tryd.func103, Tryd.ntmps103
  go_wp2
  go_loopw [8] (fun i wr => ∃ k : Nat, 1 ≤ k ∧ k ≤ q.length ∧ i = .int .i64 (k : Int) ∧ Hid (SrtIs w wr g q.length sz (dueTo js q k ++ q.drop k))) (fun i _ => q.length - (intOf i).toNat)
  case atStart => exact ⟨1, Nat.le_refl _, by omega, rfl, HS1⟩
  case round =>
    obtain ⟨k, hk1, hk2, rfl, HSk⟩ := hrel
    clear HS1
    by_cases hlt : k < q.length
    · have hol := dueTo_len js q k
      have HINS := Lib.hid (dueTo_succ (js := js) hlt)
      have hxl := hq _ (List.getElem_mem hlt)
      have hout : ∀ a ∈ dueTo js q k, a < js.length := fun a ha => hq a (dueTo_mem (by omega) ha)
      have HSO := Lib.hid (And.intro (dueTo_sorted (js := js) HD0.out k (by omega)) (dueTo_fresh (js := js) HD0.out hlt))
      have HD : Hid (q.drop k = q[k] :: q.drop (k + 1)) := List.drop_eq_getElem_cons hlt
      have hdl : (q.drop (k + 1)).length = q.length - (k + 1) := by simp
      generalize dueTo js q k = out at *
      generalize q[k] = x at *
      generalize hrst : q.drop (k + 1) = rest at *
      have HREST := Lib.hid hrst
      clear hrst
      have hol1 : out.length ≤ k := by omega
      have hol2 : k ≤ out.length := by omega
      have hrl : k + 1 + rest.length ≤ q.length := by omega
      have HST : Hid (SrtIs w wr g q.length sz (midL out rest x k)) := by
        show SrtIs _ _ _ _ _ _
        have h := HSk.out
        rw [HD.out] at h
        rwa [← hol, midL_start]
      clear hol hdl HSk
      obtain ⟨wo, rfl⟩ : ∃ wo : World, wo = wr := ⟨_, rfl⟩
      go_wp2
      go_loopw [9] (fun jv wi => ∃ j : Nat, j ≤ k ∧ jv = .int .i64 (j : Int) ∧ Hid (SrtIs w wi g q.length sz (midL out rest x j)) ∧ Hid (∀ i (h : i < out.length), j ≤ i → soonB js x out[i] = true)) (fun jv _ => (intOf jv).toNat)
      case atStart => exact ⟨k, Nat.le_refl _, rfl, HST, fun i h h' => absurd h (by omega)⟩
      case round =>
        obtain ⟨j, hj, rfl, HSJ, HG⟩ := hrel
        clear HST
        by_cases h0 : 0 < j
        · obtain ⟨m, hjm⟩ : ∃ m, j = m + 1 := ⟨j - 1, by omega⟩
          have hmo : m < out.length := by omega
          have hm0 : (0 : Int) ≤ m := by omega
          have hj0 : (0 : Int) ≤ j := by omega
          have hjq : (j : Int) < q.length := by omega
          have hm2 : (m : Int) < q.length := by omega
          have hjm' : (j : Int) - 1 = (m : Int) := by omega
          have dd : decide ((0 : Int) < (j : Int)) = true := decide_eq_true (by omega)
          have hw1 := IntWalk.i64_in ((j : Int) - 1) (by omega)
          obtain ⟨cur, hB, hcs, htk, hgr⟩ := HSJ.out
          have c1 := cells_ofD hB htk (midL_at out rest x (j := j) (by omega)) (by omega)
          have c0 := cells_ofD hB htk (by rw [hjm]; exact midL_prev out rest x (j := m) hmo) (show m < q.length by omega)
          have hym := hout _ (List.getElem_mem hmo)
          have HCC : Hid (∀ w', Below wr.heap.size wr w' → Calls Tryd.prog FCD #[.slice A js.length c, .int .i64 (x : Int), .int .i64 (out[m] : Int)] w' fun e w'' => e = .returned (.int .i64 (cmpD js x out[m])) ∧ Below w'.heap.size w' w'') := fun w' hb => compareDue_any A c js w' (HCW.out w' (grown_then_below hgr hb)) hok h8 x out[m] hxl hym
          have HSN : Hid (soonB js x out[m] = decide (cmpD js x out[m] < 0)) := cmpD_soon js x out[m]
          have HJM := Lib.hid hjm
          have HX := Lib.hid (And.intro hB (And.intro hcs (And.intro htk hgr)))
          have fz1 := hB.frozen j
          have fz0 := hB.frozen m
          have HC1 := Lib.hid c1
          have HC0 := Lib.hid c0
          have lg : g < wr.heap.size := hB.lt
          clear hB hcs htk hgr hjm hym c1 c0
          by_cases hneg : cmpD js x out[m] < 0
          · have HSW := Lib.hid (midL_swap out rest x hmo)
            have HG2 : Hid (∀ i (h : i < out.length), m ≤ i → soonB js x out[i] = true) := fun i h hmi => by
              by_cases e : i = m
              · subst e; rw [HSN.out]; exact decide_eq_true hneg
              · exact HG.out i h (by have := HJM.out; omega)
            have dn : decide (cmpD js x out[m] < 0) = true := decide_eq_true hneg
            generalize cmpD js x out[m] = gg at *
            generalize out[m] = y at *
            go_wp2
            refine wp_region_detY (by kernel_rfl) (fun (_ : Array Bool) w' => Below wr.heap.size wr w') (fun t => (#[.int .i64 (j : Int), .int .i64 0, .bool true, .bool true, .func (.func FCD) #[.slice A js.length c] #[], .slice (some ⟨g, 0, none⟩) q.length cs, .int .i64 (j : Int), .pointer (some ⟨g, j, none⟩), .int .i64 (x : Int), .slice (some ⟨g, 0, none⟩) q.length cs, .int .i64 (j : Int), .int .i64 (m : Int), .pointer (some ⟨g, m, none⟩), .int .i64 (y : Int), .int .i64 gg, .bool true, .bool true] : Array Value).getD t undef) (by kernel_rfl) (by kernel_rfl) (Below.refl _ _).drew ?_ ?_
            · intro L tm w' hall hS hsz hlow hval
              have ht : tm = #[.slice (some ⟨g, 0, none⟩) q.length cs, .int .i64 0, .int .i64 (q.length : Int), .func (.func FCD) #[.slice A js.length c] #[], undef, undef, undef, undef, .int .i64 (k : Int), .int .i64 (j : Int), .int .i64 0, .int .i64 1, .int .i64 (k : Int), .int .i64 (q.length : Int), .bool true, u15, u16, .int .i64 (k : Int), .int .i64 (j : Int), .int .i64 0, .bool true, .bool true, .func (.func FCD) #[.slice A js.length c] #[], .slice (some ⟨g, 0, none⟩) q.length cs, .int .i64 (j : Int), .pointer (some ⟨g, j, none⟩), .int .i64 (x : Int), .slice (some ⟨g, 0, none⟩) q.length cs, .int .i64 (j : Int), .int .i64 (m : Int), .pointer (some ⟨g, m, none⟩), .int .i64 (y : Int), .int .i64 gg, .bool true, .bool true, u35, u36, u37, u38, u39, u40, u41, u42, u43, u44, u45, u46, u47, u48, u49, u50, u51, u52] := by
                refine arr_of _ _ hsz fun t ht => ?_
                have ht' : t < 53 := ht
                rcases (by omega : t = 0 ∨ t = 1 ∨ t = 2 ∨ t = 3 ∨ t = 4 ∨ t = 5 ∨ t = 6 ∨ t = 7 ∨ t = 8 ∨ t = 9 ∨ t = 10 ∨ t = 11 ∨ t = 12 ∨ t = 13 ∨ t = 14 ∨ t = 15 ∨ t = 16 ∨ t = 17 ∨ t = 18 ∨ t = 19 ∨ t = 20 ∨ t = 21 ∨ t = 22 ∨ t = 23 ∨ t = 24 ∨ t = 25 ∨ t = 26 ∨ t = 27 ∨ t = 28 ∨ t = 29 ∨ t = 30 ∨ t = 31 ∨ t = 32 ∨ t = 33 ∨ t = 34 ∨ t = 35 ∨ t = 36 ∨ t = 37 ∨ t = 38 ∨ t = 39 ∨ t = 40 ∨ t = 41 ∨ t = 42 ∨ t = 43 ∨ t = 44 ∨ t = 45 ∨ t = 46 ∨ t = 47 ∨ t = 48 ∨ t = 49 ∨ t = 50 ∨ t = 51 ∨ t = 52) with rfl | rfl | rfl | rfl | rfl | rfl | rfl | rfl | rfl | rfl | rfl | rfl | rfl | rfl | rfl | rfl | rfl | rfl | rfl | rfl | rfl | rfl | rfl | rfl | rfl | rfl | rfl | rfl | rfl | rfl | rfl | rfl | rfl | rfl | rfl | rfl | rfl | rfl | rfl | rfl | rfl | rfl | rfl | rfl | rfl | rfl | rfl | rfl | rfl | rfl | rfl | rfl | rfl
                · exact hlow 0 (by kernel_rfl)
                · exact hlow 1 (by kernel_rfl)
                · exact hlow 2 (by kernel_rfl)
                · exact hlow 3 (by kernel_rfl)
                · exact hlow 4 (by kernel_rfl)
                · exact hlow 5 (by kernel_rfl)
                · exact hlow 6 (by kernel_rfl)
                · exact hlow 7 (by kernel_rfl)
                · exact hlow 8 (by kernel_rfl)
                · exact hlow 9 (by kernel_rfl)
                · exact hlow 10 (by kernel_rfl)
                · exact hlow 11 (by kernel_rfl)
                · exact hlow 12 (by kernel_rfl)
                · exact hlow 13 (by kernel_rfl)
                · exact hlow 14 (by kernel_rfl)
                · exact hlow 15 (by kernel_rfl)
                · exact hlow 16 (by kernel_rfl)
                · exact hlow 17 (by kernel_rfl)
                · exact hval 0 _ 18 rfl rfl
                · exact hval 1 _ 19 rfl rfl
                · exact hval 2 _ 20 rfl rfl
                · exact hval 3 _ 21 rfl rfl
                · exact hval 4 _ 22 rfl rfl
                · exact hval 5 _ 23 rfl rfl
                · exact hval 6 _ 24 rfl rfl
                · exact hval 7 _ 25 rfl rfl
                · exact hval 8 _ 26 rfl rfl
                · exact hval 9 _ 27 rfl rfl
                · exact hval 10 _ 28 rfl rfl
                · exact hval 11 _ 29 rfl rfl
                · exact hval 12 _ 30 rfl rfl
                · exact hval 13 _ 31 rfl rfl
                · exact hval 14 _ 32 rfl rfl
                · exact hval 15 _ 33 rfl rfl
                · exact hval 16 _ 34 rfl rfl
                · exact hlow 35 (by kernel_rfl)
                · exact hlow 36 (by kernel_rfl)
                · exact hlow 37 (by kernel_rfl)
                · exact hlow 38 (by kernel_rfl)
                · exact hlow 39 (by kernel_rfl)
                · exact hlow 40 (by kernel_rfl)
                · exact hlow 41 (by kernel_rfl)
                · exact hlow 42 (by kernel_rfl)
                · exact hlow 43 (by kernel_rfl)
                · exact hlow 44 (by kernel_rfl)
                · exact hlow 45 (by kernel_rfl)
                · exact hlow 46 (by kernel_rfl)
                · exact hlow 47 (by kernel_rfl)
                · exact hlow 48 (by kernel_rfl)
                · exact hlow 49 (by kernel_rfl)
                · exact hlow 50 (by kernel_rfl)
                · exact hlow 51 (by kernel_rfl)
                · exact hlow 52 (by kernel_rfl)
              subst ht
              clear hlow hval hsz hall
              have HSW1 := Lib.hid (HSJ.out.below hS)
              have c1w : w'.cell? ⟨g, j, none⟩ = some (.int .i64 (x : Int)) := (hS.cell (p := ⟨g, j, none⟩) lg).trans HC1.out
              have c0w : w'.cell? ⟨g, m, none⟩ = some (.int .i64 (y : Int)) := (hS.cell (p := ⟨g, m, none⟩) lg).trans HC0.out
              have f1w : w'.frozen? ⟨g, j, none⟩ = false := (hS.frozen (p := ⟨g, j, none⟩) lg).trans fz1
              have f0w : w'.frozen? ⟨g, m, none⟩ = false := (hS.frozen (p := ⟨g, m, none⟩) lg).trans fz0
              clear hS HCC HC1 HC0 fz1 fz0 HX
              go_wp2
              go_region
              all_goals
                go_wp2
                go_roundw
                case rel =>
                  have hz := (HSW1.out.set j y (by omega)).set m x (by omega)
                  rw [HJM.out, HSW.out, ← HJM.out] at hz
                  exact ⟨m, by omega, by go_num, by first | exact hz | exact hz.drew1, HG2.out⟩
                case measure => simp [intOf]; omega
            · intro L a w' t op _ hop _ _ _ hS hlow hdep _
              have ht : t < 17 := (Array.getElem?_eq_some_iff.1 hop).1
              rcases (by omega : t = 0 ∨ t = 1 ∨ t = 2 ∨ t = 3 ∨ t = 4 ∨ t = 5 ∨ t = 6 ∨ t = 7 ∨ t = 8 ∨ t = 9 ∨ t = 10 ∨ t = 11 ∨ t = 12 ∨ t = 13 ∨ t = 14 ∨ t = 15 ∨ t = 16) with rfl | rfl | rfl | rfl | rfl | rfl | rfl | rfl | rfl | rfl | rfl | rfl | rfl | rfl | rfl | rfl | rfl
              · obtain rfl := Option.some.inj hop
                have e9 : a.tmps[9]?.getD undef = .int .i64 (j : Int) := (Array.getD_eq_getD_getElem? ..).symm.trans (hlow 9 (by kernel_rfl))
                exact ⟨wanted_free rfl, .inl (.inl ⟨w', by simp [execOp, Act.eval, e9, go_sem], hS⟩)⟩
              · obtain rfl := Option.some.inj hop
                have e1 : a.tmps[1]?.getD undef = .int .i64 0 := (Array.getD_eq_getD_getElem? ..).symm.trans (hlow 1 (by kernel_rfl))
                exact ⟨wanted_free rfl, .inl (.inl ⟨w', by simp [execOp, Act.eval, e1, go_sem], hS⟩)⟩
              · obtain rfl := Option.some.inj hop
                have e18 : a.tmps[18]?.getD undef = .int .i64 (j : Int) := (Array.getD_eq_getD_getElem? ..).symm.trans (hdep 0 _ 18 (by kernel_rfl) rfl rfl)
                have e19 : a.tmps[19]?.getD undef = .int .i64 0 := (Array.getD_eq_getD_getElem? ..).symm.trans (hdep 1 _ 19 (by kernel_rfl) rfl rfl)
                exact ⟨wanted_free rfl, .inl (.inl ⟨w', by simp [execOp, Act.eval, e18, e19, h0, go_sem], hS⟩)⟩
              · obtain rfl := Option.some.inj hop
                have e20 : a.tmps[20]?.getD undef = .bool true := (Array.getD_eq_getD_getElem? ..).symm.trans (hdep 2 _ 20 (by kernel_rfl) rfl rfl)
                exact ⟨wanted_free rfl, .inl (.inl ⟨w', by simp [execOp, Act.eval, e20, go_sem], hS⟩)⟩
              · obtain rfl := Option.some.inj hop
                have e3 : a.tmps[3]?.getD undef = .func (.func FCD) #[.slice A js.length c] #[] := (Array.getD_eq_getD_getElem? ..).symm.trans (hlow 3 (by kernel_rfl))
                exact ⟨wanted_guard (g := 3) (d := 21) (b := true) rfl rfl rfl (hdep 3 _ 21 (by kernel_rfl) rfl rfl), .inl (.inl ⟨w', by simp [execOp, Act.eval, e3, go_sem], hS⟩)⟩
              · obtain rfl := Option.some.inj hop
                have e0 : a.tmps[0]?.getD undef = .slice (some ⟨g, 0, none⟩) q.length cs := (Array.getD_eq_getD_getElem? ..).symm.trans (hlow 0 (by kernel_rfl))
                exact ⟨wanted_guard (g := 3) (d := 21) (b := true) rfl rfl rfl (hdep 3 _ 21 (by kernel_rfl) rfl rfl), .inl (.inl ⟨w', by simp [execOp, Act.eval, e0, go_sem], hS⟩)⟩
              · obtain rfl := Option.some.inj hop
                have e9 : a.tmps[9]?.getD undef = .int .i64 (j : Int) := (Array.getD_eq_getD_getElem? ..).symm.trans (hlow 9 (by kernel_rfl))
                exact ⟨wanted_guard (g := 3) (d := 21) (b := true) rfl rfl rfl (hdep 3 _ 21 (by kernel_rfl) rfl rfl), .inl (.inl ⟨w', by simp [execOp, Act.eval, e9, go_sem], hS⟩)⟩
              · obtain rfl := Option.some.inj hop
                have e23 : a.tmps[23]?.getD undef = .slice (some ⟨g, 0, none⟩) q.length cs := (Array.getD_eq_getD_getElem? ..).symm.trans (hdep 5 _ 23 (by kernel_rfl) rfl rfl)
                have e24 : a.tmps[24]?.getD undef = .int .i64 (j : Int) := (Array.getD_eq_getD_getElem? ..).symm.trans (hdep 6 _ 24 (by kernel_rfl) rfl rfl)
                exact ⟨wanted_guard (g := 3) (d := 21) (b := true) rfl rfl rfl (hdep 3 _ 21 (by kernel_rfl) rfl rfl), .inl (.inl ⟨w', by simp [execOp, Act.eval, e23, e24, hj0, hjq, go_sem], hS⟩)⟩
              · obtain rfl := Option.some.inj hop
                have e25 : a.tmps[25]?.getD undef = .pointer (some ⟨g, j, none⟩) := (Array.getD_eq_getD_getElem? ..).symm.trans (hdep 7 _ 25 (by kernel_rfl) rfl rfl)
                have cw : w'.cell? ⟨g, j, none⟩ = some (.int .i64 (x : Int)) := (hS.cell (p := ⟨g, j, none⟩) lg).trans HC1.out
                exact ⟨wanted_guard (g := 3) (d := 21) (b := true) rfl rfl rfl (hdep 3 _ 21 (by kernel_rfl) rfl rfl), .inl (.inl ⟨w', by simp [execOp, Act.eval, e25, cw, go_sem], hS⟩)⟩
              · obtain rfl := Option.some.inj hop
                have e0 : a.tmps[0]?.getD undef = .slice (some ⟨g, 0, none⟩) q.length cs := (Array.getD_eq_getD_getElem? ..).symm.trans (hlow 0 (by kernel_rfl))
                exact ⟨wanted_guard (g := 3) (d := 21) (b := true) rfl rfl rfl (hdep 3 _ 21 (by kernel_rfl) rfl rfl), .inl (.inl ⟨w', by simp [execOp, Act.eval, e0, go_sem], hS⟩)⟩
              · obtain rfl := Option.some.inj hop
                have e9 : a.tmps[9]?.getD undef = .int .i64 (j : Int) := (Array.getD_eq_getD_getElem? ..).symm.trans (hlow 9 (by kernel_rfl))
                exact ⟨wanted_guard (g := 3) (d := 21) (b := true) rfl rfl rfl (hdep 3 _ 21 (by kernel_rfl) rfl rfl), .inl (.inl ⟨w', by simp [execOp, Act.eval, e9, go_sem], hS⟩)⟩
              · obtain rfl := Option.some.inj hop
                have e28 : a.tmps[28]?.getD undef = .int .i64 (j : Int) := (Array.getD_eq_getD_getElem? ..).symm.trans (hdep 10 _ 28 (by kernel_rfl) rfl rfl)
                exact ⟨wanted_guard (g := 3) (d := 21) (b := true) rfl rfl rfl (hdep 3 _ 21 (by kernel_rfl) rfl rfl), .inl (.inl ⟨w', by simp [execOp, Act.eval, e28, hw1, go_sem] <;> omega, hS⟩)⟩
              · obtain rfl := Option.some.inj hop
                have e27 : a.tmps[27]?.getD undef = .slice (some ⟨g, 0, none⟩) q.length cs := (Array.getD_eq_getD_getElem? ..).symm.trans (hdep 9 _ 27 (by kernel_rfl) rfl rfl)
                have e29 : a.tmps[29]?.getD undef = .int .i64 (m : Int) := (Array.getD_eq_getD_getElem? ..).symm.trans (hdep 11 _ 29 (by kernel_rfl) rfl rfl)
                exact ⟨wanted_guard (g := 3) (d := 21) (b := true) rfl rfl rfl (hdep 3 _ 21 (by kernel_rfl) rfl rfl), .inl (.inl ⟨w', by simp [execOp, Act.eval, e27, e29, hm0, hm2, go_sem], hS⟩)⟩
              · obtain rfl := Option.some.inj hop
                have e30 : a.tmps[30]?.getD undef = .pointer (some ⟨g, m, none⟩) := (Array.getD_eq_getD_getElem? ..).symm.trans (hdep 12 _ 30 (by kernel_rfl) rfl rfl)
                have cw : w'.cell? ⟨g, m, none⟩ = some (.int .i64 (y : Int)) := (hS.cell (p := ⟨g, m, none⟩) lg).trans HC0.out
                exact ⟨wanted_guard (g := 3) (d := 21) (b := true) rfl rfl rfl (hdep 3 _ 21 (by kernel_rfl) rfl rfl), .inl (.inl ⟨w', by simp [execOp, Act.eval, e30, cw, go_sem], hS⟩)⟩
              · obtain rfl := Option.some.inj hop
                have e22 : a.tmps[22]?.getD undef = .func (.func FCD) #[.slice A js.length c] #[] := (Array.getD_eq_getD_getElem? ..).symm.trans (hdep 4 _ 22 (by kernel_rfl) rfl rfl)
                have e26 : a.tmps[26]?.getD undef = .int .i64 (x : Int) := (Array.getD_eq_getD_getElem? ..).symm.trans (hdep 8 _ 26 (by kernel_rfl) rfl rfl)
                have e31 : a.tmps[31]?.getD undef = .int .i64 (y : Int) := (Array.getD_eq_getD_getElem? ..).symm.trans (hdep 13 _ 31 (by kernel_rfl) rfl rfl)
                refine ⟨wanted_guard (g := 3) (d := 21) (b := true) rfl rfl rfl (hdep 3 _ 21 (by kernel_rfl) rfl rfl), .inl (.inr ⟨FCD, #[.slice A js.length c, .int .i64 (x : Int), .int .i64 (y : Int)], by simp [execOp, Act.eval, e22, e26, e31, hcf, go_sem], (HCC.out w' hS).mono ?_⟩)⟩
                rintro e w2 ⟨rfl, hb2⟩
                exact ⟨rfl, hS.trans (hb2.mono hS.size)⟩
              · obtain rfl := Option.some.inj hop
                have e32 : a.tmps[32]?.getD undef = .int .i64 gg := (Array.getD_eq_getD_getElem? ..).symm.trans (hdep 14 _ 32 (by kernel_rfl) rfl rfl)
                exact ⟨wanted_guard (g := 3) (d := 21) (b := true) rfl rfl rfl (hdep 3 _ 21 (by kernel_rfl) rfl rfl), .inl (.inl ⟨w', by simp [execOp, Act.eval, e32, dn, go_sem], hS⟩)⟩
              · obtain rfl := Option.some.inj hop
                have e21 : a.tmps[21]?.getD undef = .bool true := (Array.getD_eq_getD_getElem? ..).symm.trans (hdep 3 _ 21 (by kernel_rfl) rfl rfl)
                have e33 : a.tmps[33]?.getD undef = .bool true := (Array.getD_eq_getD_getElem? ..).symm.trans (hdep 15 _ 33 (by kernel_rfl) rfl rfl)
                exact ⟨wanted_free rfl, .inl (.inl ⟨w', by simp [execOp, Act.eval, e21, e33, go_sem], hS⟩)⟩
          · have dn : decide (cmpD js x out[m] < 0) = false := decide_eq_false hneg
            have HF : Hid (dueTo js q (k + 1) ++ q.drop (k + 1) = midL out rest x j) := by
              show _ = _
              rw [HINS.out, HREST.out, insD_back HSO.out.1 HSO.out.2 (j := j) (by omega) (fun h => by
                have e : j - 1 = m := by have := HJM.out; omega
                simp only [e]
                rw [HSN.out]; exact dn) HG.out]
              unfold midL; simp
            generalize cmpD js x out[m] = gg at *
            generalize out[m] = y at *
            go_wp2
            refine wp_region_detY (by kernel_rfl) (fun (_ : Array Bool) w' => Below wr.heap.size wr w') (fun t => (#[.int .i64 (j : Int), .int .i64 0, .bool true, .bool true, .func (.func FCD) #[.slice A js.length c] #[], .slice (some ⟨g, 0, none⟩) q.length cs, .int .i64 (j : Int), .pointer (some ⟨g, j, none⟩), .int .i64 (x : Int), .slice (some ⟨g, 0, none⟩) q.length cs, .int .i64 (j : Int), .int .i64 (m : Int), .pointer (some ⟨g, m, none⟩), .int .i64 (y : Int), .int .i64 gg, .bool false, .bool false] : Array Value).getD t undef) (by kernel_rfl) (by kernel_rfl) (Below.refl _ _).drew ?_ ?_
            · intro L tm w' hall hS hsz hlow hval
              have ht : tm = #[.slice (some ⟨g, 0, none⟩) q.length cs, .int .i64 0, .int .i64 (q.length : Int), .func (.func FCD) #[.slice A js.length c] #[], undef, undef, undef, undef, .int .i64 (k : Int), .int .i64 (j : Int), .int .i64 0, .int .i64 1, .int .i64 (k : Int), .int .i64 (q.length : Int), .bool true, u15, u16, .int .i64 (k : Int), .int .i64 (j : Int), .int .i64 0, .bool true, .bool true, .func (.func FCD) #[.slice A js.length c] #[], .slice (some ⟨g, 0, none⟩) q.length cs, .int .i64 (j : Int), .pointer (some ⟨g, j, none⟩), .int .i64 (x : Int), .slice (some ⟨g, 0, none⟩) q.length cs, .int .i64 (j : Int), .int .i64 (m : Int), .pointer (some ⟨g, m, none⟩), .int .i64 (y : Int), .int .i64 gg, .bool false, .bool false, u35, u36, u37, u38, u39, u40, u41, u42, u43, u44, u45, u46, u47, u48, u49, u50, u51, u52] := by
                refine arr_of _ _ hsz fun t ht => ?_
                have ht' : t < 53 := ht
                rcases (by omega : t = 0 ∨ t = 1 ∨ t = 2 ∨ t = 3 ∨ t = 4 ∨ t = 5 ∨ t = 6 ∨ t = 7 ∨ t = 8 ∨ t = 9 ∨ t = 10 ∨ t = 11 ∨ t = 12 ∨ t = 13 ∨ t = 14 ∨ t = 15 ∨ t = 16 ∨ t = 17 ∨ t = 18 ∨ t = 19 ∨ t = 20 ∨ t = 21 ∨ t = 22 ∨ t = 23 ∨ t = 24 ∨ t = 25 ∨ t = 26 ∨ t = 27 ∨ t = 28 ∨ t = 29 ∨ t = 30 ∨ t = 31 ∨ t = 32 ∨ t = 33 ∨ t = 34 ∨ t = 35 ∨ t = 36 ∨ t = 37 ∨ t = 38 ∨ t = 39 ∨ t = 40 ∨ t = 41 ∨ t = 42 ∨ t = 43 ∨ t = 44 ∨ t = 45 ∨ t = 46 ∨ t = 47 ∨ t = 48 ∨ t = 49 ∨ t = 50 ∨ t = 51 ∨ t = 52) with rfl | rfl | rfl | rfl | rfl | rfl | rfl | rfl | rfl | rfl | rfl | rfl | rfl | rfl | rfl | rfl | rfl | rfl | rfl | rfl | rfl | rfl | rfl | rfl | rfl | rfl | rfl | rfl | rfl | rfl | rfl | rfl | rfl | rfl | rfl | rfl | rfl | rfl | rfl | rfl | rfl | rfl | rfl | rfl | rfl | rfl | rfl | rfl | rfl | rfl | rfl | rfl | rfl
                · exact hlow 0 (by kernel_rfl)
                · exact hlow 1 (by kernel_rfl)
                · exact hlow 2 (by kernel_rfl)
                · exact hlow 3 (by kernel_rfl)
                · exact hlow 4 (by kernel_rfl)
                · exact hlow 5 (by kernel_rfl)
                · exact hlow 6 (by kernel_rfl)
                · exact hlow 7 (by kernel_rfl)
                · exact hlow 8 (by kernel_rfl)
                · exact hlow 9 (by kernel_rfl)
                · exact hlow 10 (by kernel_rfl)
                · exact hlow 11 (by kernel_rfl)
                · exact hlow 12 (by kernel_rfl)
                · exact hlow 13 (by kernel_rfl)
                · exact hlow 14 (by kernel_rfl)
                · exact hlow 15 (by kernel_rfl)
                · exact hlow 16 (by kernel_rfl)
                · exact hlow 17 (by kernel_rfl)
                · exact hval 0 _ 18 rfl rfl
                · exact hval 1 _ 19 rfl rfl
                · exact hval 2 _ 20 rfl rfl
                · exact hval 3 _ 21 rfl rfl
                · exact hval 4 _ 22 rfl rfl
                · exact hval 5 _ 23 rfl rfl
                · exact hval 6 _ 24 rfl rfl
                · exact hval 7 _ 25 rfl rfl
                · exact hval 8 _ 26 rfl rfl
                · exact hval 9 _ 27 rfl rfl
                · exact hval 10 _ 28 rfl rfl
                · exact hval 11 _ 29 rfl rfl
                · exact hval 12 _ 30 rfl rfl
                · exact hval 13 _ 31 rfl rfl
                · exact hval 14 _ 32 rfl rfl
                · exact hval 15 _ 33 rfl rfl
                · exact hval 16 _ 34 rfl rfl
                · exact hlow 35 (by kernel_rfl)
                · exact hlow 36 (by kernel_rfl)
                · exact hlow 37 (by kernel_rfl)
                · exact hlow 38 (by kernel_rfl)
                · exact hlow 39 (by kernel_rfl)
                · exact hlow 40 (by kernel_rfl)
                · exact hlow 41 (by kernel_rfl)
                · exact hlow 42 (by kernel_rfl)
                · exact hlow 43 (by kernel_rfl)
                · exact hlow 44 (by kernel_rfl)
                · exact hlow 45 (by kernel_rfl)
                · exact hlow 46 (by kernel_rfl)
                · exact hlow 47 (by kernel_rfl)
                · exact hlow 48 (by kernel_rfl)
                · exact hlow 49 (by kernel_rfl)
                · exact hlow 50 (by kernel_rfl)
                · exact hlow 51 (by kernel_rfl)
                · exact hlow 52 (by kernel_rfl)
              subst ht
              clear hlow hval hsz hall
              have HSW1 := Lib.hid (HSJ.out.below hS)
              clear hS HCC HC1 HC0 fz1 fz0 HX
              go_wp2
              go_roundw
              case rel => exact ⟨k + 1, by omega, by omega, by go_num, by rw [HF.out]; exact HSW1.out⟩
              case measure => simp [intOf]; omega
            · intro L a w' t op _ hop _ _ _ hS hlow hdep _
              have ht : t < 17 := (Array.getElem?_eq_some_iff.1 hop).1
              rcases (by omega : t = 0 ∨ t = 1 ∨ t = 2 ∨ t = 3 ∨ t = 4 ∨ t = 5 ∨ t = 6 ∨ t = 7 ∨ t = 8 ∨ t = 9 ∨ t = 10 ∨ t = 11 ∨ t = 12 ∨ t = 13 ∨ t = 14 ∨ t = 15 ∨ t = 16) with rfl | rfl | rfl | rfl | rfl | rfl | rfl | rfl | rfl | rfl | rfl | rfl | rfl | rfl | rfl | rfl | rfl
              · obtain rfl := Option.some.inj hop
                have e9 : a.tmps[9]?.getD undef = .int .i64 (j : Int) := (Array.getD_eq_getD_getElem? ..).symm.trans (hlow 9 (by kernel_rfl))
                exact ⟨wanted_free rfl, .inl (.inl ⟨w', by simp [execOp, Act.eval, e9, go_sem], hS⟩)⟩
              · obtain rfl := Option.some.inj hop
                have e1 : a.tmps[1]?.getD undef = .int .i64 0 := (Array.getD_eq_getD_getElem? ..).symm.trans (hlow 1 (by kernel_rfl))
                exact ⟨wanted_free rfl, .inl (.inl ⟨w', by simp [execOp, Act.eval, e1, go_sem], hS⟩)⟩
              · obtain rfl := Option.some.inj hop
                have e18 : a.tmps[18]?.getD undef = .int .i64 (j : Int) := (Array.getD_eq_getD_getElem? ..).symm.trans (hdep 0 _ 18 (by kernel_rfl) rfl rfl)
                have e19 : a.tmps[19]?.getD undef = .int .i64 0 := (Array.getD_eq_getD_getElem? ..).symm.trans (hdep 1 _ 19 (by kernel_rfl) rfl rfl)
                exact ⟨wanted_free rfl, .inl (.inl ⟨w', by simp [execOp, Act.eval, e18, e19, h0, go_sem], hS⟩)⟩
              · obtain rfl := Option.some.inj hop
                have e20 : a.tmps[20]?.getD undef = .bool true := (Array.getD_eq_getD_getElem? ..).symm.trans (hdep 2 _ 20 (by kernel_rfl) rfl rfl)
                exact ⟨wanted_free rfl, .inl (.inl ⟨w', by simp [execOp, Act.eval, e20, go_sem], hS⟩)⟩
              · obtain rfl := Option.some.inj hop
                have e3 : a.tmps[3]?.getD undef = .func (.func FCD) #[.slice A js.length c] #[] := (Array.getD_eq_getD_getElem? ..).symm.trans (hlow 3 (by kernel_rfl))
                exact ⟨wanted_guard (g := 3) (d := 21) (b := true) rfl rfl rfl (hdep 3 _ 21 (by kernel_rfl) rfl rfl), .inl (.inl ⟨w', by simp [execOp, Act.eval, e3, go_sem], hS⟩)⟩
              · obtain rfl := Option.some.inj hop
                have e0 : a.tmps[0]?.getD undef = .slice (some ⟨g, 0, none⟩) q.length cs := (Array.getD_eq_getD_getElem? ..).symm.trans (hlow 0 (by kernel_rfl))
                exact ⟨wanted_guard (g := 3) (d := 21) (b := true) rfl rfl rfl (hdep 3 _ 21 (by kernel_rfl) rfl rfl), .inl (.inl ⟨w', by simp [execOp, Act.eval, e0, go_sem], hS⟩)⟩
              · obtain rfl := Option.some.inj hop
                have e9 : a.tmps[9]?.getD undef = .int .i64 (j : Int) := (Array.getD_eq_getD_getElem? ..).symm.trans (hlow 9 (by kernel_rfl))
                exact ⟨wanted_guard (g := 3) (d := 21) (b := true) rfl rfl rfl (hdep 3 _ 21 (by kernel_rfl) rfl rfl), .inl (.inl ⟨w', by simp [execOp, Act.eval, e9, go_sem], hS⟩)⟩
              · obtain rfl := Option.some.inj hop
                have e23 : a.tmps[23]?.getD undef = .slice (some ⟨g, 0, none⟩) q.length cs := (Array.getD_eq_getD_getElem? ..).symm.trans (hdep 5 _ 23 (by kernel_rfl) rfl rfl)
                have e24 : a.tmps[24]?.getD undef = .int .i64 (j : Int) := (Array.getD_eq_getD_getElem? ..).symm.trans (hdep 6 _ 24 (by kernel_rfl) rfl rfl)
                exact ⟨wanted_guard (g := 3) (d := 21) (b := true) rfl rfl rfl (hdep 3 _ 21 (by kernel_rfl) rfl rfl), .inl (.inl ⟨w', by simp [execOp, Act.eval, e23, e24, hj0, hjq, go_sem], hS⟩)⟩
              · obtain rfl := Option.some.inj hop
                have e25 : a.tmps[25]?.getD undef = .pointer (some ⟨g, j, none⟩) := (Array.getD_eq_getD_getElem? ..).symm.trans (hdep 7 _ 25 (by kernel_rfl) rfl rfl)
                have cw : w'.cell? ⟨g, j, none⟩ = some (.int .i64 (x : Int)) := (hS.cell (p := ⟨g, j, none⟩) lg).trans HC1.out
                exact ⟨wanted_guard (g := 3) (d := 21) (b := true) rfl rfl rfl (hdep 3 _ 21 (by kernel_rfl) rfl rfl), .inl (.inl ⟨w', by simp [execOp, Act.eval, e25, cw, go_sem], hS⟩)⟩
              · obtain rfl := Option.some.inj hop
                have e0 : a.tmps[0]?.getD undef = .slice (some ⟨g, 0, none⟩) q.length cs := (Array.getD_eq_getD_getElem? ..).symm.trans (hlow 0 (by kernel_rfl))
                exact ⟨wanted_guard (g := 3) (d := 21) (b := true) rfl rfl rfl (hdep 3 _ 21 (by kernel_rfl) rfl rfl), .inl (.inl ⟨w', by simp [execOp, Act.eval, e0, go_sem], hS⟩)⟩
              · obtain rfl := Option.some.inj hop
                have e9 : a.tmps[9]?.getD undef = .int .i64 (j : Int) := (Array.getD_eq_getD_getElem? ..).symm.trans (hlow 9 (by kernel_rfl))
                exact ⟨wanted_guard (g := 3) (d := 21) (b := true) rfl rfl rfl (hdep 3 _ 21 (by kernel_rfl) rfl rfl), .inl (.inl ⟨w', by simp [execOp, Act.eval, e9, go_sem], hS⟩)⟩
              · obtain rfl := Option.some.inj hop
                have e28 : a.tmps[28]?.getD undef = .int .i64 (j : Int) := (Array.getD_eq_getD_getElem? ..).symm.trans (hdep 10 _ 28 (by kernel_rfl) rfl rfl)
                exact ⟨wanted_guard (g := 3) (d := 21) (b := true) rfl rfl rfl (hdep 3 _ 21 (by kernel_rfl) rfl rfl), .inl (.inl ⟨w', by simp [execOp, Act.eval, e28, hw1, go_sem] <;> omega, hS⟩)⟩
              · obtain rfl := Option.some.inj hop
                have e27 : a.tmps[27]?.getD undef = .slice (some ⟨g, 0, none⟩) q.length cs := (Array.getD_eq_getD_getElem? ..).symm.trans (hdep 9 _ 27 (by kernel_rfl) rfl rfl)
                have e29 : a.tmps[29]?.getD undef = .int .i64 (m : Int) := (Array.getD_eq_getD_getElem? ..).symm.trans (hdep 11 _ 29 (by kernel_rfl) rfl rfl)
                exact ⟨wanted_guard (g := 3) (d := 21) (b := true) rfl rfl rfl (hdep 3 _ 21 (by kernel_rfl) rfl rfl), .inl (.inl ⟨w', by simp [execOp, Act.eval, e27, e29, hm0, hm2, go_sem], hS⟩)⟩
              · obtain rfl := Option.some.inj hop
                have e30 : a.tmps[30]?.getD undef = .pointer (some ⟨g, m, none⟩) := (Array.getD_eq_getD_getElem? ..).symm.trans (hdep 12 _ 30 (by kernel_rfl) rfl rfl)
                have cw : w'.cell? ⟨g, m, none⟩ = some (.int .i64 (y : Int)) := (hS.cell (p := ⟨g, m, none⟩) lg).trans HC0.out
                exact ⟨wanted_guard (g := 3) (d := 21) (b := true) rfl rfl rfl (hdep 3 _ 21 (by kernel_rfl) rfl rfl), .inl (.inl ⟨w', by simp [execOp, Act.eval, e30, cw, go_sem], hS⟩)⟩
              · obtain rfl := Option.some.inj hop
                have e22 : a.tmps[22]?.getD undef = .func (.func FCD) #[.slice A js.length c] #[] := (Array.getD_eq_getD_getElem? ..).symm.trans (hdep 4 _ 22 (by kernel_rfl) rfl rfl)
                have e26 : a.tmps[26]?.getD undef = .int .i64 (x : Int) := (Array.getD_eq_getD_getElem? ..).symm.trans (hdep 8 _ 26 (by kernel_rfl) rfl rfl)
                have e31 : a.tmps[31]?.getD undef = .int .i64 (y : Int) := (Array.getD_eq_getD_getElem? ..).symm.trans (hdep 13 _ 31 (by kernel_rfl) rfl rfl)
                refine ⟨wanted_guard (g := 3) (d := 21) (b := true) rfl rfl rfl (hdep 3 _ 21 (by kernel_rfl) rfl rfl), .inl (.inr ⟨FCD, #[.slice A js.length c, .int .i64 (x : Int), .int .i64 (y : Int)], by simp [execOp, Act.eval, e22, e26, e31, hcf, go_sem], (HCC.out w' hS).mono ?_⟩)⟩
                rintro e w2 ⟨rfl, hb2⟩
                exact ⟨rfl, hS.trans (hb2.mono hS.size)⟩
              · obtain rfl := Option.some.inj hop
                have e32 : a.tmps[32]?.getD undef = .int .i64 gg := (Array.getD_eq_getD_getElem? ..).symm.trans (hdep 14 _ 32 (by kernel_rfl) rfl rfl)
                exact ⟨wanted_guard (g := 3) (d := 21) (b := true) rfl rfl rfl (hdep 3 _ 21 (by kernel_rfl) rfl rfl), .inl (.inl ⟨w', by simp [execOp, Act.eval, e32, dn, go_sem], hS⟩)⟩
              · obtain rfl := Option.some.inj hop
                have e21 : a.tmps[21]?.getD undef = .bool true := (Array.getD_eq_getD_getElem? ..).symm.trans (hdep 3 _ 21 (by kernel_rfl) rfl rfl)
                have e33 : a.tmps[33]?.getD undef = .bool false := (Array.getD_eq_getD_getElem? ..).symm.trans (hdep 15 _ 33 (by kernel_rfl) rfl rfl)
                exact ⟨wanted_free rfl, .inl (.inl ⟨w', by simp [execOp, Act.eval, e21, e33, go_sem], hS⟩)⟩
        · have d0 : decide ((0 : Int) < (j : Int)) = false := decide_eq_false (by omega)
          have d1 : ¬ (0 : Int) < (j : Int) := by omega
          have HF : Hid (dueTo js q (k + 1) ++ q.drop (k + 1) = midL out rest x j) := by
            show _ = _
            rw [HINS.out, HREST.out, insD_back HSO.out.1 HSO.out.2 (j := j) (by omega) (fun h => absurd h h0) HG.out]
            unfold midL; simp
          go_wp2
          go_quiet (fail)
          go_wp2
          go_roundw
          case rel => exact ⟨k + 1, by omega, by omega, by go_num, by rw [HF.out]; exact HSJ.out.drew _⟩
          case measure => simp [intOf]; omega
    · have hkq : k = q.length := by omega
      have HF : Hid (dueTo js q k ++ q.drop k = dueL js q) := by
        show _ = _
        rw [hkq, List.drop_of_length_le (Nat.le_refl _), List.append_nil]; rfl
      have hkq' : ¬ (k : Int) < (q.length : Int) := by omega
      clear hkq
      go_wp2
      go_end0
      refine ⟨rfl, ?_⟩
      rw [← HF.out]
      exact HSk.out
end
end Go.Proofs.YtnkoncplfedffaaDoor
