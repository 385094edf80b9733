/- A region in whatever order its edges allow, by what holds when some of its operations are through. -/
import Derived.Orders
import Derived.OrdersHeld
import Derived.Deep.Draws
namespace Go.Proofs.Yteidhjmnononaaa
section
variable {P : Program} {ops : Array Oper} {Q : Exit → Act → World → Prop}
theorem countP_lt {p p' : Nat → Bool} (h : ∀ x, p' x = true → p x = true) {i : Nat} (hi : p i = true) (hi' : p' i = false) : ∀ l : List Nat, i ∈ l → l.countP p' < l.countP p
  | [], hm => by cases hm
  | x :: l, hm => by
    have hle : l.countP p' ≤ l.countP p := List.countP_mono_left fun x _ hx => h x hx
    rcases List.mem_cons.1 hm with rfl | hm
    · rw [List.countP_cons, List.countP_cons, hi, hi']
      simp only [Bool.false_eq_true, if_false, if_true]; omega
    · have ih := countP_lt h hi hi' l hm
      rw [List.countP_cons, List.countP_cons]
      by_cases hx : p' x = true
      · rw [if_pos hx, if_pos (h x hx)]; omega
      · rw [if_neg hx]; split <;> omega
/-- Operations that are not through. -/
def unl (ops : Array Oper) (listed : Array Bool) : Nat := (List.range ops.size).countP fun i => !listed.getD i true
theorem getD_set_true (listed : Array Bool) (i j : Nat) (b : Bool) : (listed.setIfInBounds i true).getD j b = if i = j ∧ j < listed.size then true else listed.getD j b := by
  simp only [Array.getD_eq_getD_getElem?, Array.getElem?_setIfInBounds]
  by_cases e : i = j
  · subst e
    by_cases h : i < listed.size
    · simp [h]
    · simp [h]
  · simp [e]
/-- What is through has all its edges behind it. -/
def Closed (ops : Array Oper) (listed : Array Bool) : Prop := listed.size = ops.size ∧ ∀ (j : Nat) (o : Oper), ops[j]? = some o → listed.getD j true = true → ∀ e ∈ o.after, Region.binds .any e = true → listed.getD e.on false = true
theorem Closed.start : Closed ops (Array.replicate ops.size false) := ⟨by simp, fun j o ho h => by
  have hj : j < ops.size := (Array.getElem?_eq_some_iff.1 ho).1
  simp [Array.getD_eq_getD_getElem?, hj] at h⟩
theorem Closed.step {listed : Array Bool} {i : Nat} (h : Closed ops listed) (hr : i ∈ Region.ready .any ops listed) : Closed ops (listed.setIfInBounds i true) := by
  refine ⟨by simp [h.1], fun j o ho hl e he hb => ?_⟩
  rw [getD_set_true] at hl ⊢
  obtain ⟨_, oi, hoi, hall⟩ := mem_ready.1 hr
  by_cases hij : i = j
  · subst hij
    rw [hoi] at ho; injection ho with ho; subst ho
    rw [hall e he hb]; split <;> rfl
  · rw [if_neg (fun h => hij h.1)] at hl
    rw [h.2 j o ho hl e he hb]; split <;> rfl
theorem all_of_ready {listed : Array Bool} (hs : listed.size = ops.size) (hback : ∀ (i : Nat) (o : Oper), ops[i]? = some o → ∀ e ∈ o.after, e.on < i) (hr : Region.ready .any ops listed = []) : ∀ i, i < ops.size → listed.getD i true = true := by
  intro i
  induction i using Nat.strongRecOn with
  | _ i ih =>
    intro hi
    cases hl : listed.getD i true with
    | true => rfl
    | false =>
      have : i ∈ Region.ready .any ops listed := mem_ready.2 ⟨hl, ops[i], Array.getElem?_eq_getElem hi, fun e he _ => by
        have h1 := hback i _ (Array.getElem?_eq_getElem hi) e he
        have h2 := ih e.on h1 (by omega)
        have h3 : e.on < listed.size := by omega
        simp only [Array.getD_eq_getD_getElem?, Array.getElem?_eq_getElem h3, Option.getD_some] at h2 ⊢
        exact h2⟩
      rw [hr] at this; cases this
theorem wpAny_inv (Inv : Array Bool → Act → World → Prop) (hback : ∀ (i : Nat) (o : Oper), ops[i]? = some o → ∀ e ∈ o.after, e.on < i)
    (hdone : ∀ listed a w, Inv listed a w → (∀ i, i < ops.size → listed.getD i true = true) → Q .normal a w)
    (hstep : ∀ listed a w (i : Nat) (o : Oper), Closed ops listed → Inv listed a w → ops[i]? = some o → listed.getD i true = false → (∀ e ∈ o.after, Region.binds .any e = true → listed.getD e.on false = true) → wpOp P ops Q i (fun a' w' => Inv (listed.setIfInBounds i true) a' w') a w) :
    ∀ (fuel : Nat) (listed : Array Bool) (a : Act) (w : World), Closed ops listed → unl ops listed ≤ fuel → Inv listed a w → wpAny P .any ops Q fuel listed a w
  | 0, listed, a, w, hc, hf, hi => by
    have hr : Region.ready .any ops listed = [] := by
      apply List.eq_nil_iff_forall_not_mem.2
      intro i hm
      obtain ⟨hl, o, ho, _⟩ := mem_ready.1 hm
      have hpos : 0 < unl ops listed := List.countP_pos_iff.2 ⟨i, List.mem_range.2 (Array.getElem?_eq_some_iff.1 ho).1, by rw [hl]; rfl⟩
      omega
    exact ⟨hr, hdone listed a w hi (all_of_ready hc.1 hback hr)⟩
  | fuel + 1, listed, a, w, hc, hf, hi => by
    refine ⟨fun hr => hdone listed a w hi (all_of_ready hc.1 hback hr), fun i hm => ?_⟩
    obtain ⟨hl, o, ho, hall⟩ := mem_ready.1 hm
    have hlt : i < ops.size := (Array.getElem?_eq_some_iff.1 ho).1
    refine wpOp_mono (fun a' w' hi' => wpAny_inv Inv hback hdone hstep fuel _ a' w' (hc.step hm) ?_ hi') (hstep listed a w i o hc hi ho hl hall)
    have : unl ops (listed.setIfInBounds i true) < unl ops listed := by
      refine countP_lt (i := i) (fun x hx => ?_) (by rw [hl]; rfl) ?_ _ (List.mem_range.2 hlt)
      · rw [getD_set_true] at hx
        by_cases h : i = x ∧ x < listed.size
        · rw [if_pos h] at hx; cases hx
        · rwa [if_neg h] at hx
      · rw [getD_set_true, if_pos ⟨rfl, by rw [hc.1]; exact hlt⟩]; rfl
    omega
theorem wp_region_inv {id : Nat} {a : Act} {w : World} (hm : P.follows .mixedOrders = true) (Inv : Array Bool → Act → World → Prop) (hback : ∀ (i : Nat) (o : Oper), ops[i]? = some o → ∀ e ∈ o.after, e.on < i)
    (h0 : Inv (Array.replicate ops.size false) a w.drew)
    (hdone : ∀ listed a w, Inv listed a w → (∀ i, i < ops.size → listed.getD i true = true) → Q .normal a w)
    (hstep : ∀ listed a w (i : Nat) (o : Oper), Closed ops listed → Inv listed a w → ops[i]? = some o → listed.getD i true = false → (∀ e ∈ o.after, Region.binds .any e = true → listed.getD e.on false = true) → wpOp P ops Q i (fun a' w' => Inv (listed.setIfInBounds i true) a' w') a w) :
    (Code.region id ops true).wp P Q a w :=
  wp_region_any hm (wpAny_inv Inv hback hdone hstep _ _ _ _ Closed.start (Nat.le_trans List.countP_le_length (by simp)) h0)
/-- One operation that hands a value on, or a word of it that writes. -/
theorem wpOp_value {i : Nat} {o : Oper} {a : Act} {w w' : World} {v : Value} {K : Act → World → Prop} (ho : ops[i]? = some o) (hg : o.guard = none) (hr : (execOp a.eval o).run P w = .ok (.value v) w') (hK : K (a.put o.dst v) w') : wpOp P ops Q i K a w := by
  unfold wpOp
  rw [ho]
  simp only [Region.wanted, hg, if_true]
  left
  unfold Oper.wp
  rw [hr]
  exact hK
theorem wpOp_skip {i : Nat} {o : Oper} {a : Act} {w w' : World} {K : Act → World → Prop} (ho : ops[i]? = some o) (hg : o.guard = none) (hr : (execOp a.eval o).run P w = .ok .skip w') (hK : K (a.put o.dst undef) w') : wpOp P ops Q i K a w := by
  unfold wpOp
  rw [ho]
  simp only [Region.wanted, hg, if_true]
  left
  unfold Oper.wp
  rw [hr]
  exact hK
theorem wpOp_enter {i : Nat} {o : Oper} {a : Act} {w w' : World} {f : FuncId} {args : Array Value} {K : Act → World → Prop} (ho : ops[i]? = some o) (hg : o.guard = none) (hr : (execOp a.eval o).run P w = .ok (.enter f args) w') (hK : Calls P f args w' fun e w'' => ∃ v, e = .returned v ∧ K (a.put o.dst v) w'') : wpOp P ops Q i K a w := by
  unfold wpOp
  rw [ho]
  simp only [Region.wanted, hg, if_true]
  left
  unfold Oper.wp
  rw [hr]
  refine Calls.mono hK ?_
  rintro e w'' ⟨v, rfl, h⟩
  exact h
theorem getD_ft {L : Array Bool} {e : Nat} (h : L.getD e false = true) : L.getD e true = true := by
  simp only [Array.getD_eq_getD_getElem?] at h ⊢
  cases hx : L[e]? with
  | none => rfl
  | some b => rw [hx] at h; exact h
def backB (ops : Array Oper) : Bool := (List.range ops.size).all fun i => match ops[i]? with
  | some o => o.after.all fun e => decide (e.on < i)
  | none => true
theorem back_of (h : backB ops = true) : ∀ (i : Nat) (o : Oper), ops[i]? = some o → ∀ e ∈ o.after, e.on < i := by
  intro i o ho e he
  unfold backB at h
  have h1 := List.all_eq_true.1 h i (List.mem_range.2 (Array.getElem?_eq_some_iff.1 ho).1)
  rw [ho] at h1
  simp only at h1
  rw [Array.all_eq_true_iff_forall_mem] at h1
  exact of_decide_eq_true (h1 e he)
def edgeB (ops : Array Oper) (j e : Nat) : Bool := match ops[j]? with
  | some o => o.after.any fun x => x.on == e && Region.binds .any x
  | none => false
theorem edge_of {j e : Nat} (h : edgeB ops j e = true) : ∃ o x, ops[j]? = some o ∧ x ∈ o.after ∧ x.on = e ∧ Region.binds .any x = true := by
  unfold edgeB at h
  cases ho : ops[j]? with
  | none => rw [ho] at h; cases h
  | some o =>
    rw [ho] at h
    simp only at h
    rw [Array.any_eq_true'] at h
    obtain ⟨x, hx, hb⟩ := h
    rw [Bool.and_eq_true] at hb
    exact ⟨o, x, rfl, hx, by simpa using hb.1, hb.2⟩
theorem Closed.no {listed : Array Bool} (h : Closed ops listed) {j e : Nat} (he : edgeB ops j e = true) (hl : listed.getD e true = false) : listed.getD j true = false := by
  cases hj : listed.getD j true with
  | false => rfl
  | true =>
    obtain ⟨o, x, ho, hx, rfl, hb⟩ := edge_of he
    have := getD_ft (h.2 j o ho hj x hx hb)
    rw [hl] at this; cases this
theorem dep_of {listed : Array Bool} {i : Nat} {o : Oper} (ho : ops[i]? = some o) (hd : ∀ e ∈ o.after, Region.binds .any e = true → listed.getD e.on false = true) {e : Nat} (he : edgeB ops i e = true) : listed.getD e true = true := by
  obtain ⟨o', x, ho', hx, rfl, hb⟩ := edge_of he
  rw [ho] at ho'; injection ho' with ho'; subst ho'
  exact getD_ft (hd x hx hb)
/-- Each operation's slot is its own. -/
def ownDst (ops : Array Oper) (n : Nat) : Bool := (List.range ops.size).all fun i => match (ops[i]?).bind (·.dst) with
  | some d => decide (d < n) && (List.range ops.size).all fun j => j == i || !((ops[j]?).bind (·.dst) == some d)
  | none => true
theorem ownDst_lt {n : Nat} (h : ownDst ops n = true) {i : Nat} {o : Oper} {d : Nat} (ho : ops[i]? = some o) (hd : o.dst = some d) : d < n := by
  unfold ownDst at h
  have h1 := List.all_eq_true.1 h i (List.mem_range.2 (Array.getElem?_eq_some_iff.1 ho).1)
  simp only [ho, Option.bind_some, hd, Bool.and_eq_true] at h1
  exact of_decide_eq_true h1.1
theorem ownDst_inj {n : Nat} (h : ownDst ops n = true) {i j : Nat} {o o' : Oper} {d : Nat} (ho : ops[i]? = some o) (hd : o.dst = some d) (ho' : ops[j]? = some o') (hd' : o'.dst = some d) : j = i := by
  unfold ownDst at h
  have h1 := List.all_eq_true.1 h i (List.mem_range.2 (Array.getElem?_eq_some_iff.1 ho).1)
  simp only [ho, Option.bind_some, hd, Bool.and_eq_true] at h1
  have h2 := List.all_eq_true.1 h1.2 j (List.mem_range.2 (Array.getElem?_eq_some_iff.1 ho').1)
  simp only [ho', Option.bind_some, hd'] at h2
  simpa using h2
/-- One operation yields a value, the world still being of a kind. -/
def StepTo (P : Program) (S : World → Prop) (o : Oper) (a : Act) (w : World) (v : Value) : Prop :=
  (∃ w', (execOp a.eval o).run P w = .ok (.value v) w' ∧ S w') ∨ (∃ f args, (execOp a.eval o).run P w = .ok (.enter f args) w ∧ Calls P f args w fun e w' => e = .returned v ∧ S w')
/-- A region all of whose operations yield one value each, in whatever order they come up. -/
theorem wp_region_detL {id : Nat} {tm0 : Array Value} {df : List Deferred} {w : World} (hm : P.follows .mixedOrders = true) (S : Array Bool → World → Prop) (val : Nat → Value) (hback : backB ops = true) (hown : ownDst ops tm0.size = true)
    (h0 : S (Array.replicate ops.size false) w.drew)
    (hdone : ∀ (L : Array Bool) (tm : Array Value) (w : World), (∀ i, i < ops.size → L.getD i true = true) → S L w → tm.size = tm0.size → (∀ t, ((List.range ops.size).all fun j => !((ops[j]?).bind (·.dst) == some t)) = true → tm.getD t undef = tm0.getD t undef) → (∀ j o d, ops[j]? = some o → o.dst = some d → tm.getD d undef = val j) → Q .normal ⟨tm, df⟩ w)
    (hstep : ∀ (L : Array Bool) (a : Act) (w : World) (i : Nat) (o : Oper), L.size = ops.size → ops[i]? = some o → L.getD i true = false → (∀ j, edgeB ops i j = true → L.getD j true = true) → (∀ j, edgeB ops j i = true → L.getD j true = false) → S L w → (∀ t, ((List.range ops.size).all fun j => !((ops[j]?).bind (·.dst) == some t)) = true → a.tmps.getD t undef = tm0.getD t undef) →
      (∀ j oj d, edgeB ops i j = true → ops[j]? = some oj → oj.dst = some d → a.tmps.getD d undef = val j) →
      (∀ j oj d, edgeB ops j i = true → ops[j]? = some oj → oj.dst = some d → a.tmps.getD d undef = tm0.getD d undef) → o.guard = none ∧ StepTo P (S (L.setIfInBounds i true)) o a w (val i)) :
    (Code.region id ops true).wp P Q ⟨tm0, df⟩ w := by
  refine wp_region_inv hm (fun L a w => S L w ∧ a.defers = df ∧ a.tmps.size = tm0.size ∧ (∀ t, ((List.range ops.size).all fun j => !((ops[j]?).bind (·.dst) == some t)) = true → a.tmps.getD t undef = tm0.getD t undef) ∧ (∀ j o d, ops[j]? = some o → o.dst = some d → L.getD j true = true → a.tmps.getD d undef = val j) ∧ (∀ j o d, ops[j]? = some o → o.dst = some d → L.getD j true = false → a.tmps.getD d undef = tm0.getD d undef)) (back_of hback) ?_ ?_ ?_
  · refine ⟨h0, rfl, rfl, fun _ _ => rfl, fun j o d ho _ hl => ?_, fun _ _ _ _ _ _ => rfl⟩
    have hj : j < ops.size := (Array.getElem?_eq_some_iff.1 ho).1
    simp [Array.getD_eq_getD_getElem?, hj] at hl
  · intro L a w ⟨hS, hdf, hsz, hlow, hval, _⟩ hall
    obtain ⟨tm, df'⟩ := a
    simp only at hdf hsz
    subst hdf
    exact hdone L tm w hall hS hsz hlow (fun j o d ho hd => hval j o d ho hd (hall j (Array.getElem?_eq_some_iff.1 ho).1))
  · intro L a w i o hC ⟨hS, hdf, hsz, hlow, hval, hold⟩ ho hl hd
    obtain ⟨hg, hst⟩ := hstep L a w i o hC.1 ho hl (fun j he => dep_of ho hd he) (fun j he => hC.no he hl) hS hlow (fun j oj d he hoj hdj => hval j oj d hoj hdj (dep_of ho hd he)) (fun j oj d he hoj hdj => hold j oj d hoj hdj (hC.no he hl))
    have next : ∀ w', S (L.setIfInBounds i true) w' → S (L.setIfInBounds i true) w' ∧ (a.put o.dst (val i)).defers = df ∧ (a.put o.dst (val i)).tmps.size = tm0.size ∧ (∀ t, ((List.range ops.size).all fun j => !((ops[j]?).bind (·.dst) == some t)) = true → (a.put o.dst (val i)).tmps.getD t undef = tm0.getD t undef) ∧ (∀ j o' d, ops[j]? = some o' → o'.dst = some d → (L.setIfInBounds i true).getD j true = true → (a.put o.dst (val i)).tmps.getD d undef = val j) ∧ (∀ j o' d, ops[j]? = some o' → o'.dst = some d → (L.setIfInBounds i true).getD j true = false → (a.put o.dst (val i)).tmps.getD d undef = tm0.getD d undef) := by
      intro w' hS'
      cases hod : o.dst with
      | none =>
        refine ⟨hS', hdf, hsz, hlow, fun j o' d ho' hd' hl' => ?_, fun j o' d ho' hd' hl' => ?_⟩
        · have hne : i ≠ j := fun e => by subst e; rw [ho] at ho'; injection ho' with ho'; subst ho'; rw [hod] at hd'; cases hd'
          rw [getD_set_true, if_neg (fun h => hne h.1)] at hl'
          exact hval j o' d ho' hd' hl'
        · have hne : i ≠ j := fun e => by subst e; rw [ho] at ho'; injection ho' with ho'; subst ho'; rw [hod] at hd'; cases hd'
          rw [getD_set_true, if_neg (fun h => hne h.1)] at hl'
          exact hold j o' d ho' hd' hl'
      | some d0 =>
        have hput : ∀ t, (a.put (some d0) (val i)).tmps.getD t undef = if d0 = t ∧ t < a.tmps.size then val i else a.tmps.getD t undef := by
          intro t
          unfold Act.put
          simp only [Array.getD_eq_getD_getElem?, Array.getElem?_setIfInBounds]
          by_cases e : d0 = t
          · subst e
            by_cases h : d0 < a.tmps.size
            · simp [h]
            · simp [h]
          · simp [e]
        refine ⟨hS', hdf, by simp [Act.put, hsz], fun t ht => ?_, fun j o' d ho' hd' hl' => ?_, fun j o' d ho' hd' hl' => ?_⟩
        · rw [hput, if_neg (fun h => ?_)]
          · exact hlow t ht
          · have := List.all_eq_true.1 ht i (List.mem_range.2 (Array.getElem?_eq_some_iff.1 ho).1)
            rw [ho] at this
            simp [hod, h.1] at this
        · rw [hput]
          by_cases e : d0 = d
          · subst e
            have hij := ownDst_inj hown ho hod ho' hd'
            subst hij
            rw [if_pos ⟨rfl, by rw [hsz]; exact ownDst_lt hown ho hod⟩]
          · rw [if_neg (fun h => e h.1)]
            have hne : i ≠ j := fun e' => by subst e'; rw [ho] at ho'; injection ho' with ho'; subst ho'; rw [hod] at hd'; injection hd' with hd'; exact e hd'
            rw [getD_set_true, if_neg (fun h => hne h.1)] at hl'
            exact hval j o' d ho' hd' hl'
        · have hli : i ≠ j := fun e => by
            subst e
            have hC1 : i < L.size := by rw [hC.1]; exact (Array.getElem?_eq_some_iff.1 ho).1
            rw [getD_set_true, if_pos ⟨rfl, hC1⟩] at hl'; cases hl'
          rw [getD_set_true, if_neg (fun h => hli h.1)] at hl'
          have hdd : d0 ≠ d := fun e => by subst e; exact hli (ownDst_inj hown ho' hd' ho hod)
          rw [hput, if_neg (fun h => hdd h.1)]
          exact hold j o' d ho' hd' hl'
    rcases hst with ⟨w', hr, hS'⟩ | ⟨f, args, hr, hc⟩
    · exact wpOp_value ho hg hr (next w' hS')
    · refine wpOp_enter ho hg hr (hc.mono ?_)
      rintro e w' ⟨rfl, hS'⟩
      exact ⟨_, rfl, next w' hS'⟩
/-- A region all of whose operations yield one value each, in whatever order they come up. -/
theorem wp_region_det {id : Nat} {tm0 : Array Value} {df : List Deferred} {w : World} (hm : P.follows .mixedOrders = true) (S : World → Prop) (val : Nat → Value) (hback : backB ops = true) (hown : ownDst ops tm0.size = true)
    (h0 : S w.drew)
    (hdone : ∀ (tm : Array Value) (w : World), S w → tm.size = tm0.size → (∀ t, ((List.range ops.size).all fun j => !((ops[j]?).bind (·.dst) == some t)) = true → tm.getD t undef = tm0.getD t undef) → (∀ j o d, ops[j]? = some o → o.dst = some d → tm.getD d undef = val j) → Q .normal ⟨tm, df⟩ w)
    (hstep : ∀ (a : Act) (w : World) (i : Nat) (o : Oper), ops[i]? = some o → S w → (∀ t, ((List.range ops.size).all fun j => !((ops[j]?).bind (·.dst) == some t)) = true → a.tmps.getD t undef = tm0.getD t undef) →
      (∀ j oj d, edgeB ops i j = true → ops[j]? = some oj → oj.dst = some d → a.tmps.getD d undef = val j) →
      (∀ j oj d, edgeB ops j i = true → ops[j]? = some oj → oj.dst = some d → a.tmps.getD d undef = tm0.getD d undef) → o.guard = none ∧ StepTo P S o a w (val i)) :
    (Code.region id ops true).wp P Q ⟨tm0, df⟩ w :=
  wp_region_detL hm (fun _ w => S w) val hback hown h0 (fun _ tm w _ hS hsz hl hv => hdone tm w hS hsz hl hv) (fun _ a w i o _ ho _ _ _ hS hl hd hh => hstep a w i o ho hS hl hd hh)
theorem arr_of (tm lit : Array Value) (h : tm.size = lit.size) (hall : ∀ t, t < lit.size → tm.getD t undef = lit.getD t undef) : tm = lit := by
  apply Array.ext h
  intro t h1 h2
  have := hall t h2
  simp only [Array.getD_eq_getD_getElem?, Array.getElem?_eq_getElem h1, Array.getElem?_eq_getElem h2, Option.getD_some] at this
  exact this
end
end Go.Proofs.Yteidhjmnononaaa
