/- Texts joined: RegInv RegInvK RegR RegW RegY RegX Plain Pln Tot AppW SetL SwapB SetB OwnM RegInvG Due Dud Tml Rsi. -/
import Derived.Orders
import Derived.OrdersHeld
import Derived.Deep.Draws
import Derived.OrdersIn
import Derived.TacticsIn
import Derived.Test.YtjemjdlaoebffaaDoorGood
import Derived.Test.YtjemjdlaoebffaaDoorRulP
import Derived.Test.YtjemjdlaoebffaaDoorMbr
import Derived.Test.YtjemjdlaoebffaaDoorEndsO
import Derived.Shelf.RegionOpen
import Derived.Test.YtjemjdlaoebffaaDoorSeg
import Derived.OwnWalk
import Derived.Maps.AppendAt
import Derived.Laws.Cover3
import Derived.RegionTactic
import Derived.BigRegion
import Derived.IntWalk
import Derived.Test.YtjemjdlaoebffaaDoorDueP
import Derived.Test.YtjemjdlaoebffaaDoorTmp
import Derived.Test.YtjemjdlaoebffaaDoorRis
import Derived.Test.YtjemjdlaoebffaaDoorSegH
set_option linter.unusedSimpArgs false
set_option linter.unusedVariables false
section
namespace Go.Proofs.YtjemjdlaoebffaaDoor
section
variable {P : Program} {ops : Array Oper} {Q : Exit → Act → World → Prop}
theorem countP_lt {p p' : Nat → Bool} (h : ∀ x, p' x = true → p x = true) {i : Nat} (hi : p i = true) (hi' : p' i = false) : ∀ l : List Nat, i ∈ l → l.countP p' < l.countP p
  | [], hm => by cases hm
  | x :: l, hm => by
    have hle : l.countP p' ≤ l.countP p := List.countP_mono_left fun x _ hx => h x hx
    rcases List.mem_cons.1 hm with rfl | hm
    · rw [List.countP_cons, List.countP_cons, hi, hi']
      simp only [Bool.false_eq_true, if_false, if_true]; omega
    · have ih := countP_lt h hi hi' l hm
      rw [List.countP_cons, List.countP_cons]
      by_cases hx : p' x = true
      · rw [if_pos hx, if_pos (h x hx)]; omega
      · rw [if_neg hx]; split <;> omega
/-- Operations that are not through. -/
def unl (ops : Array Oper) (listed : Array Bool) : Nat := (List.range ops.size).countP fun i => !listed.getD i true
theorem getD_set_true (listed : Array Bool) (i j : Nat) (b : Bool) : (listed.setIfInBounds i true).getD j b = if i = j ∧ j < listed.size then true else listed.getD j b := by
  simp only [Array.getD_eq_getD_getElem?, Array.getElem?_setIfInBounds]
  by_cases e : i = j
  · subst e
    by_cases h : i < listed.size
    · simp [h]
    · simp [h]
  · simp [e]
/-- What is through has all its edges behind it. -/
def Closed (ops : Array Oper) (listed : Array Bool) : Prop := listed.size = ops.size ∧ ∀ (j : Nat) (o : Oper), ops[j]? = some o → listed.getD j true = true → ∀ e ∈ o.after, Region.binds .any e = true → listed.getD e.on false = true
theorem Closed.start : Closed ops (Array.replicate ops.size false) := ⟨by simp, fun j o ho h => by
  have hj : j < ops.size := (Array.getElem?_eq_some_iff.1 ho).1
  simp [Array.getD_eq_getD_getElem?, hj] at h⟩
theorem Closed.step {listed : Array Bool} {i : Nat} (h : Closed ops listed) (hr : i ∈ Region.ready .any ops listed) : Closed ops (listed.setIfInBounds i true) := by
  refine ⟨by simp [h.1], fun j o ho hl e he hb => ?_⟩
  rw [getD_set_true] at hl ⊢
  obtain ⟨_, oi, hoi, hall⟩ := mem_ready.1 hr
  by_cases hij : i = j
  · subst hij
    rw [hoi] at ho; injection ho with ho; subst ho
    rw [hall e he hb]; split <;> rfl
  · rw [if_neg (fun h => hij h.1)] at hl
    rw [h.2 j o ho hl e he hb]; split <;> rfl
theorem all_of_ready {listed : Array Bool} (hs : listed.size = ops.size) (hback : ∀ (i : Nat) (o : Oper), ops[i]? = some o → ∀ e ∈ o.after, e.on < i) (hr : Region.ready .any ops listed = []) : ∀ i, i < ops.size → listed.getD i true = true := by
  intro i
  induction i using Nat.strongRecOn with
  | _ i ih =>
    intro hi
    cases hl : listed.getD i true with
    | true => rfl
    | false =>
      have : i ∈ Region.ready .any ops listed := mem_ready.2 ⟨hl, ops[i], Array.getElem?_eq_getElem hi, fun e he _ => by
        have h1 := hback i _ (Array.getElem?_eq_getElem hi) e he
        have h2 := ih e.on h1 (by omega)
        have h3 : e.on < listed.size := by omega
        simp only [Array.getD_eq_getD_getElem?, Array.getElem?_eq_getElem h3, Option.getD_some] at h2 ⊢
        exact h2⟩
      rw [hr] at this; cases this
theorem wpAny_inv (Inv : Array Bool → Act → World → Prop) (hback : ∀ (i : Nat) (o : Oper), ops[i]? = some o → ∀ e ∈ o.after, e.on < i)
    (hdone : ∀ listed a w, Inv listed a w → (∀ i, i < ops.size → listed.getD i true = true) → Q .normal a w)
    (hstep : ∀ listed a w (i : Nat) (o : Oper), Closed ops listed → Inv listed a w → ops[i]? = some o → listed.getD i true = false → (∀ e ∈ o.after, Region.binds .any e = true → listed.getD e.on false = true) → wpOp P ops Q i (fun a' w' => Inv (listed.setIfInBounds i true) a' w') a w) :
    ∀ (fuel : Nat) (listed : Array Bool) (a : Act) (w : World), Closed ops listed → unl ops listed ≤ fuel → Inv listed a w → wpAny P .any ops Q fuel listed a w
  | 0, listed, a, w, hc, hf, hi => by
    have hr : Region.ready .any ops listed = [] := by
      apply List.eq_nil_iff_forall_not_mem.2
      intro i hm
      obtain ⟨hl, o, ho, _⟩ := mem_ready.1 hm
      have hpos : 0 < unl ops listed := List.countP_pos_iff.2 ⟨i, List.mem_range.2 (Array.getElem?_eq_some_iff.1 ho).1, by rw [hl]; rfl⟩
      omega
    exact ⟨hr, hdone listed a w hi (all_of_ready hc.1 hback hr)⟩
  | fuel + 1, listed, a, w, hc, hf, hi => by
    refine ⟨fun hr => hdone listed a w hi (all_of_ready hc.1 hback hr), fun i hm => ?_⟩
    obtain ⟨hl, o, ho, hall⟩ := mem_ready.1 hm
    have hlt : i < ops.size := (Array.getElem?_eq_some_iff.1 ho).1
    refine wpOp_mono (fun a' w' hi' => wpAny_inv Inv hback hdone hstep fuel _ a' w' (hc.step hm) ?_ hi') (hstep listed a w i o hc hi ho hl hall)
    have : unl ops (listed.setIfInBounds i true) < unl ops listed := by
      refine countP_lt (i := i) (fun x hx => ?_) (by rw [hl]; rfl) ?_ _ (List.mem_range.2 hlt)
      · rw [getD_set_true] at hx
        by_cases h : i = x ∧ x < listed.size
        · rw [if_pos h] at hx; cases hx
        · rwa [if_neg h] at hx
      · rw [getD_set_true, if_pos ⟨rfl, by rw [hc.1]; exact hlt⟩]; rfl
    omega
theorem wp_region_inv {id : Nat} {a : Act} {w : World} (hm : P.follows .mixedOrders = true) (Inv : Array Bool → Act → World → Prop) (hback : ∀ (i : Nat) (o : Oper), ops[i]? = some o → ∀ e ∈ o.after, e.on < i)
    (h0 : Inv (Array.replicate ops.size false) a w.drew)
    (hdone : ∀ listed a w, Inv listed a w → (∀ i, i < ops.size → listed.getD i true = true) → Q .normal a w)
    (hstep : ∀ listed a w (i : Nat) (o : Oper), Closed ops listed → Inv listed a w → ops[i]? = some o → listed.getD i true = false → (∀ e ∈ o.after, Region.binds .any e = true → listed.getD e.on false = true) → wpOp P ops Q i (fun a' w' => Inv (listed.setIfInBounds i true) a' w') a w) :
    (Code.region id ops true).wp P Q a w :=
  wp_region_any hm (wpAny_inv Inv hback hdone hstep _ _ _ _ Closed.start (Nat.le_trans List.countP_le_length (by simp)) h0)
/-- One operation that hands a value on, or a word of it that writes. -/
theorem wpOp_value {i : Nat} {o : Oper} {a : Act} {w w' : World} {v : Value} {K : Act → World → Prop} (ho : ops[i]? = some o) (hg : o.guard = none) (hr : (execOp a.eval o).run P w = .ok (.value v) w') (hK : K (a.put o.dst v) w') : wpOp P ops Q i K a w := by
  unfold wpOp
  rw [ho]
  simp only [Region.wanted, hg, if_true]
  left
  unfold Oper.wp
  rw [hr]
  exact hK
theorem wpOp_skip {i : Nat} {o : Oper} {a : Act} {w w' : World} {K : Act → World → Prop} (ho : ops[i]? = some o) (hg : o.guard = none) (hr : (execOp a.eval o).run P w = .ok .skip w') (hK : K (a.put o.dst undef) w') : wpOp P ops Q i K a w := by
  unfold wpOp
  rw [ho]
  simp only [Region.wanted, hg, if_true]
  left
  unfold Oper.wp
  rw [hr]
  exact hK
theorem wpOp_enter {i : Nat} {o : Oper} {a : Act} {w w' : World} {f : FuncId} {args : Array Value} {K : Act → World → Prop} (ho : ops[i]? = some o) (hg : o.guard = none) (hr : (execOp a.eval o).run P w = .ok (.enter f args) w') (hK : Calls P f args w' fun e w'' => ∃ v, e = .returned v ∧ K (a.put o.dst v) w'') : wpOp P ops Q i K a w := by
  unfold wpOp
  rw [ho]
  simp only [Region.wanted, hg, if_true]
  left
  unfold Oper.wp
  rw [hr]
  refine Calls.mono hK ?_
  rintro e w'' ⟨v, rfl, h⟩
  exact h
theorem getD_ft {L : Array Bool} {e : Nat} (h : L.getD e false = true) : L.getD e true = true := by
  simp only [Array.getD_eq_getD_getElem?] at h ⊢
  cases hx : L[e]? with
  | none => rfl
  | some b => rw [hx] at h; exact h
def backB (ops : Array Oper) : Bool := (List.range ops.size).all fun i => match ops[i]? with
  | some o => o.after.all fun e => decide (e.on < i)
  | none => true
theorem back_of (h : backB ops = true) : ∀ (i : Nat) (o : Oper), ops[i]? = some o → ∀ e ∈ o.after, e.on < i := by
  intro i o ho e he
  unfold backB at h
  have h1 := List.all_eq_true.1 h i (List.mem_range.2 (Array.getElem?_eq_some_iff.1 ho).1)
  rw [ho] at h1
  simp only at h1
  rw [Array.all_eq_true_iff_forall_mem] at h1
  exact of_decide_eq_true (h1 e he)
def edgeB (ops : Array Oper) (j e : Nat) : Bool := match ops[j]? with
  | some o => o.after.any fun x => x.on == e && Region.binds .any x
  | none => false
theorem edge_of {j e : Nat} (h : edgeB ops j e = true) : ∃ o x, ops[j]? = some o ∧ x ∈ o.after ∧ x.on = e ∧ Region.binds .any x = true := by
  unfold edgeB at h
  cases ho : ops[j]? with
  | none => rw [ho] at h; cases h
  | some o =>
    rw [ho] at h
    simp only at h
    rw [Array.any_eq_true'] at h
    obtain ⟨x, hx, hb⟩ := h
    rw [Bool.and_eq_true] at hb
    exact ⟨o, x, rfl, hx, by simpa using hb.1, hb.2⟩
theorem Closed.no {listed : Array Bool} (h : Closed ops listed) {j e : Nat} (he : edgeB ops j e = true) (hl : listed.getD e true = false) : listed.getD j true = false := by
  cases hj : listed.getD j true with
  | false => rfl
  | true =>
    obtain ⟨o, x, ho, hx, rfl, hb⟩ := edge_of he
    have := getD_ft (h.2 j o ho hj x hx hb)
    rw [hl] at this; cases this
theorem dep_of {listed : Array Bool} {i : Nat} {o : Oper} (ho : ops[i]? = some o) (hd : ∀ e ∈ o.after, Region.binds .any e = true → listed.getD e.on false = true) {e : Nat} (he : edgeB ops i e = true) : listed.getD e true = true := by
  obtain ⟨o', x, ho', hx, rfl, hb⟩ := edge_of he
  rw [ho] at ho'; injection ho' with ho'; subst ho'
  exact getD_ft (hd x hx hb)
/-- Each operation's slot is its own. -/
def ownDst (ops : Array Oper) (n : Nat) : Bool := (List.range ops.size).all fun i => match (ops[i]?).bind (·.dst) with
  | some d => decide (d < n) && (List.range ops.size).all fun j => j == i || !((ops[j]?).bind (·.dst) == some d)
  | none => true
theorem ownDst_lt {n : Nat} (h : ownDst ops n = true) {i : Nat} {o : Oper} {d : Nat} (ho : ops[i]? = some o) (hd : o.dst = some d) : d < n := by
  unfold ownDst at h
  have h1 := List.all_eq_true.1 h i (List.mem_range.2 (Array.getElem?_eq_some_iff.1 ho).1)
  simp only [ho, Option.bind_some, hd, Bool.and_eq_true] at h1
  exact of_decide_eq_true h1.1
theorem ownDst_inj {n : Nat} (h : ownDst ops n = true) {i j : Nat} {o o' : Oper} {d : Nat} (ho : ops[i]? = some o) (hd : o.dst = some d) (ho' : ops[j]? = some o') (hd' : o'.dst = some d) : j = i := by
  unfold ownDst at h
  have h1 := List.all_eq_true.1 h i (List.mem_range.2 (Array.getElem?_eq_some_iff.1 ho).1)
  simp only [ho, Option.bind_some, hd, Bool.and_eq_true] at h1
  have h2 := List.all_eq_true.1 h1.2 j (List.mem_range.2 (Array.getElem?_eq_some_iff.1 ho').1)
  simp only [ho', Option.bind_some, hd'] at h2
  simpa using h2
/-- One operation yields a value, the world still being of a kind. -/
def StepTo (P : Program) (S : World → Prop) (o : Oper) (a : Act) (w : World) (v : Value) : Prop :=
  (∃ w', (execOp a.eval o).run P w = .ok (.value v) w' ∧ S w') ∨ (∃ f args, (execOp a.eval o).run P w = .ok (.enter f args) w ∧ Calls P f args w fun e w' => e = .returned v ∧ S w')
/-- A region all of whose operations yield one value each, in whatever order they come up. -/
theorem wp_region_detL {id : Nat} {tm0 : Array Value} {df : List Deferred} {w : World} (hm : P.follows .mixedOrders = true) (S : Array Bool → World → Prop) (val : Nat → Value) (hback : backB ops = true) (hown : ownDst ops tm0.size = true)
    (h0 : S (Array.replicate ops.size false) w.drew)
    (hdone : ∀ (L : Array Bool) (tm : Array Value) (w : World), (∀ i, i < ops.size → L.getD i true = true) → S L w → tm.size = tm0.size → (∀ t, ((List.range ops.size).all fun j => !((ops[j]?).bind (·.dst) == some t)) = true → tm.getD t undef = tm0.getD t undef) → (∀ j o d, ops[j]? = some o → o.dst = some d → tm.getD d undef = val j) → Q .normal ⟨tm, df⟩ w)
    (hstep : ∀ (L : Array Bool) (a : Act) (w : World) (i : Nat) (o : Oper), L.size = ops.size → ops[i]? = some o → L.getD i true = false → (∀ j, edgeB ops i j = true → L.getD j true = true) → (∀ j, edgeB ops j i = true → L.getD j true = false) → S L w → (∀ t, ((List.range ops.size).all fun j => !((ops[j]?).bind (·.dst) == some t)) = true → a.tmps.getD t undef = tm0.getD t undef) →
      (∀ j oj d, edgeB ops i j = true → ops[j]? = some oj → oj.dst = some d → a.tmps.getD d undef = val j) →
      (∀ j oj d, edgeB ops j i = true → ops[j]? = some oj → oj.dst = some d → a.tmps.getD d undef = tm0.getD d undef) → o.guard = none ∧ StepTo P (S (L.setIfInBounds i true)) o a w (val i)) :
    (Code.region id ops true).wp P Q ⟨tm0, df⟩ w := by
  refine wp_region_inv hm (fun L a w => S L w ∧ a.defers = df ∧ a.tmps.size = tm0.size ∧ (∀ t, ((List.range ops.size).all fun j => !((ops[j]?).bind (·.dst) == some t)) = true → a.tmps.getD t undef = tm0.getD t undef) ∧ (∀ j o d, ops[j]? = some o → o.dst = some d → L.getD j true = true → a.tmps.getD d undef = val j) ∧ (∀ j o d, ops[j]? = some o → o.dst = some d → L.getD j true = false → a.tmps.getD d undef = tm0.getD d undef)) (back_of hback) ?_ ?_ ?_
  · refine ⟨h0, rfl, rfl, fun _ _ => rfl, fun j o d ho _ hl => ?_, fun _ _ _ _ _ _ => rfl⟩
    have hj : j < ops.size := (Array.getElem?_eq_some_iff.1 ho).1
    simp [Array.getD_eq_getD_getElem?, hj] at hl
  · intro L a w ⟨hS, hdf, hsz, hlow, hval, _⟩ hall
    obtain ⟨tm, df'⟩ := a
    simp only at hdf hsz
    subst hdf
    exact hdone L tm w hall hS hsz hlow (fun j o d ho hd => hval j o d ho hd (hall j (Array.getElem?_eq_some_iff.1 ho).1))
  · intro L a w i o hC ⟨hS, hdf, hsz, hlow, hval, hold⟩ ho hl hd
    obtain ⟨hg, hst⟩ := hstep L a w i o hC.1 ho hl (fun j he => dep_of ho hd he) (fun j he => hC.no he hl) hS hlow (fun j oj d he hoj hdj => hval j oj d hoj hdj (dep_of ho hd he)) (fun j oj d he hoj hdj => hold j oj d hoj hdj (hC.no he hl))
    have next : ∀ w', S (L.setIfInBounds i true) w' → S (L.setIfInBounds i true) w' ∧ (a.put o.dst (val i)).defers = df ∧ (a.put o.dst (val i)).tmps.size = tm0.size ∧ (∀ t, ((List.range ops.size).all fun j => !((ops[j]?).bind (·.dst) == some t)) = true → (a.put o.dst (val i)).tmps.getD t undef = tm0.getD t undef) ∧ (∀ j o' d, ops[j]? = some o' → o'.dst = some d → (L.setIfInBounds i true).getD j true = true → (a.put o.dst (val i)).tmps.getD d undef = val j) ∧ (∀ j o' d, ops[j]? = some o' → o'.dst = some d → (L.setIfInBounds i true).getD j true = false → (a.put o.dst (val i)).tmps.getD d undef = tm0.getD d undef) := by
      intro w' hS'
      cases hod : o.dst with
      | none =>
        refine ⟨hS', hdf, hsz, hlow, fun j o' d ho' hd' hl' => ?_, fun j o' d ho' hd' hl' => ?_⟩
        · have hne : i ≠ j := fun e => by subst e; rw [ho] at ho'; injection ho' with ho'; subst ho'; rw [hod] at hd'; cases hd'
          rw [getD_set_true, if_neg (fun h => hne h.1)] at hl'
          exact hval j o' d ho' hd' hl'
        · have hne : i ≠ j := fun e => by subst e; rw [ho] at ho'; injection ho' with ho'; subst ho'; rw [hod] at hd'; cases hd'
          rw [getD_set_true, if_neg (fun h => hne h.1)] at hl'
          exact hold j o' d ho' hd' hl'
      | some d0 =>
        have hput : ∀ t, (a.put (some d0) (val i)).tmps.getD t undef = if d0 = t ∧ t < a.tmps.size then val i else a.tmps.getD t undef := by
          intro t
          unfold Act.put
          simp only [Array.getD_eq_getD_getElem?, Array.getElem?_setIfInBounds]
          by_cases e : d0 = t
          · subst e
            by_cases h : d0 < a.tmps.size
            · simp [h]
            · simp [h]
          · simp [e]
        refine ⟨hS', hdf, by simp [Act.put, hsz], fun t ht => ?_, fun j o' d ho' hd' hl' => ?_, fun j o' d ho' hd' hl' => ?_⟩
        · rw [hput, if_neg (fun h => ?_)]
          · exact hlow t ht
          · have := List.all_eq_true.1 ht i (List.mem_range.2 (Array.getElem?_eq_some_iff.1 ho).1)
            rw [ho] at this
            simp [hod, h.1] at this
        · rw [hput]
          by_cases e : d0 = d
          · subst e
            have hij := ownDst_inj hown ho hod ho' hd'
            subst hij
            rw [if_pos ⟨rfl, by rw [hsz]; exact ownDst_lt hown ho hod⟩]
          · rw [if_neg (fun h => e h.1)]
            have hne : i ≠ j := fun e' => by subst e'; rw [ho] at ho'; injection ho' with ho'; subst ho'; rw [hod] at hd'; injection hd' with hd'; exact e hd'
            rw [getD_set_true, if_neg (fun h => hne h.1)] at hl'
            exact hval j o' d ho' hd' hl'
        · have hli : i ≠ j := fun e => by
            subst e
            have hC1 : i < L.size := by rw [hC.1]; exact (Array.getElem?_eq_some_iff.1 ho).1
            rw [getD_set_true, if_pos ⟨rfl, hC1⟩] at hl'; cases hl'
          rw [getD_set_true, if_neg (fun h => hli h.1)] at hl'
          have hdd : d0 ≠ d := fun e => by subst e; exact hli (ownDst_inj hown ho' hd' ho hod)
          rw [hput, if_neg (fun h => hdd h.1)]
          exact hold j o' d ho' hd' hl'
    rcases hst with ⟨w', hr, hS'⟩ | ⟨f, args, hr, hc⟩
    · exact wpOp_value ho hg hr (next w' hS')
    · refine wpOp_enter ho hg hr (hc.mono ?_)
      rintro e w' ⟨rfl, hS'⟩
      exact ⟨_, rfl, next w' hS'⟩
/-- A region all of whose operations yield one value each, in whatever order they come up. -/
theorem wp_region_det {id : Nat} {tm0 : Array Value} {df : List Deferred} {w : World} (hm : P.follows .mixedOrders = true) (S : World → Prop) (val : Nat → Value) (hback : backB ops = true) (hown : ownDst ops tm0.size = true)
    (h0 : S w.drew)
    (hdone : ∀ (tm : Array Value) (w : World), S w → tm.size = tm0.size → (∀ t, ((List.range ops.size).all fun j => !((ops[j]?).bind (·.dst) == some t)) = true → tm.getD t undef = tm0.getD t undef) → (∀ j o d, ops[j]? = some o → o.dst = some d → tm.getD d undef = val j) → Q .normal ⟨tm, df⟩ w)
    (hstep : ∀ (a : Act) (w : World) (i : Nat) (o : Oper), ops[i]? = some o → S w → (∀ t, ((List.range ops.size).all fun j => !((ops[j]?).bind (·.dst) == some t)) = true → a.tmps.getD t undef = tm0.getD t undef) →
      (∀ j oj d, edgeB ops i j = true → ops[j]? = some oj → oj.dst = some d → a.tmps.getD d undef = val j) →
      (∀ j oj d, edgeB ops j i = true → ops[j]? = some oj → oj.dst = some d → a.tmps.getD d undef = tm0.getD d undef) → o.guard = none ∧ StepTo P S o a w (val i)) :
    (Code.region id ops true).wp P Q ⟨tm0, df⟩ w :=
  wp_region_detL hm (fun _ w => S w) val hback hown h0 (fun _ tm w _ hS hsz hl hv => hdone tm w hS hsz hl hv) (fun _ a w i o _ ho _ _ _ hS hl hd hh => hstep a w i o ho hS hl hd hh)
theorem arr_of (tm lit : Array Value) (h : tm.size = lit.size) (hall : ∀ t, t < lit.size → tm.getD t undef = lit.getD t undef) : tm = lit := by
  apply Array.ext h
  intro t h1 h2
  have := hall t h2
  simp only [Array.getD_eq_getD_getElem?, Array.getElem?_eq_getElem h1, Array.getElem?_eq_getElem h2, Option.getD_some] at this
  exact this
end
end Go.Proofs.YtjemjdlaoebffaaDoor

end
section
namespace Go.Proofs.YtjemjdlaoebffaaDoor
section
variable {P : Program} {ops : Array Oper} {Q : Exit → Act → World → Prop}
def StepK {γ : Type} (P : Program) (S : γ → Array Bool → World → Prop) (val : γ → Nat → Value) (x : γ) (L : Array Bool) (i : Nat) (o : Oper) (a : Act) (w : World) : Prop :=
  (∃ x' w', (∀ j, L.getD j true = true → val x' j = val x j) ∧ (execOp a.eval o).run P w = .ok (.value (val x' i)) w' ∧ S x' (L.setIfInBounds i true) w') ∨
  ((∃ f args, (execOp a.eval o).run P w = .ok (.enter f args) w ∧ Calls P f args w fun e w' => ∃ x', (∀ j, L.getD j true = true → val x' j = val x j) ∧ e = .returned (val x' i) ∧ S x' (L.setIfInBounds i true) w') ∨
   (∃ x' w', (∀ j, L.getD j true = true → val x' j = val x j) ∧ o.dst = none ∧ (execOp a.eval o).run P w = .ok .skip w' ∧ S x' (L.setIfInBounds i true) w'))
theorem wp_region_detK {γ : Type} {id : Nat} {tm0 : Array Value} {df : List Deferred} {w : World} (hm : P.follows .mixedOrders = true) (S : γ → Array Bool → World → Prop) (val : γ → Nat → Value) (x0 : γ) (hback : backB ops = true) (hown : ownDst ops tm0.size = true)
    (h0 : S x0 (Array.replicate ops.size false) w.drew)
    (hdone : ∀ (x : γ) (L : Array Bool) (tm : Array Value) (w : World), (∀ i, i < ops.size → L.getD i true = true) → S x L w → tm.size = tm0.size → (∀ t, ((List.range ops.size).all fun j => !((ops[j]?).bind (·.dst) == some t)) = true → tm.getD t undef = tm0.getD t undef) → (∀ j o d, ops[j]? = some o → o.dst = some d → tm.getD d undef = val x j) → Q .normal ⟨tm, df⟩ w)
    (hstep : ∀ (x : γ) (L : Array Bool) (a : Act) (w : World) (i : Nat) (o : Oper), L.size = ops.size → ops[i]? = some o → L.getD i true = false → (∀ j, edgeB ops i j = true → L.getD j true = true) → (∀ j, edgeB ops j i = true → L.getD j true = false) → S x L w → (∀ t, ((List.range ops.size).all fun j => !((ops[j]?).bind (·.dst) == some t)) = true → a.tmps.getD t undef = tm0.getD t undef) →
      (∀ j oj d, edgeB ops i j = true → ops[j]? = some oj → oj.dst = some d → a.tmps.getD d undef = val x j) →
      (∀ j oj d, edgeB ops j i = true → ops[j]? = some oj → oj.dst = some d → a.tmps.getD d undef = tm0.getD d undef) → o.guard = none ∧ StepK P S val x L i o a w) :
    (Code.region id ops true).wp P Q ⟨tm0, df⟩ w := by
  refine wp_region_inv hm (fun L a w => ∃ x, S x L w ∧ a.defers = df ∧ a.tmps.size = tm0.size ∧ (∀ t, ((List.range ops.size).all fun j => !((ops[j]?).bind (·.dst) == some t)) = true → a.tmps.getD t undef = tm0.getD t undef) ∧ (∀ j o d, ops[j]? = some o → o.dst = some d → L.getD j true = true → a.tmps.getD d undef = val x j) ∧ (∀ j o d, ops[j]? = some o → o.dst = some d → L.getD j true = false → a.tmps.getD d undef = tm0.getD d undef)) (back_of hback) ?_ ?_ ?_
  · refine ⟨x0, h0, rfl, rfl, fun _ _ => rfl, fun j o d ho _ hl => ?_, fun _ _ _ _ _ _ => rfl⟩
    have hj : j < ops.size := (Array.getElem?_eq_some_iff.1 ho).1
    simp [Array.getD_eq_getD_getElem?, hj] at hl
  · intro L a w ⟨x, hS, hdf, hsz, hlow, hval, _⟩ hall
    obtain ⟨tm, df'⟩ := a
    simp only at hdf hsz
    subst hdf
    exact hdone x L tm w hall hS hsz hlow (fun j o d ho hd => hval j o d ho hd (hall j (Array.getElem?_eq_some_iff.1 ho).1))
  · intro L a w i o hC ⟨x, hS, hdf, hsz, hlow, hval, hold⟩ ho hl hd
    obtain ⟨hg, hst⟩ := hstep x L a w i o hC.1 ho hl (fun j he => dep_of ho hd he) (fun j he => hC.no he hl) hS hlow (fun j oj d he hoj hdj => hval j oj d hoj hdj (dep_of ho hd he)) (fun j oj d he hoj hdj => hold j oj d hoj hdj (hC.no he hl))
    have next : ∀ x' w', (∀ j, L.getD j true = true → val x' j = val x j) → S x' (L.setIfInBounds i true) w' → S x' (L.setIfInBounds i true) w' ∧ (a.put o.dst (val x' i)).defers = df ∧ (a.put o.dst (val x' i)).tmps.size = tm0.size ∧ (∀ t, ((List.range ops.size).all fun j => !((ops[j]?).bind (·.dst) == some t)) = true → (a.put o.dst (val x' i)).tmps.getD t undef = tm0.getD t undef) ∧ (∀ j o' d, ops[j]? = some o' → o'.dst = some d → (L.setIfInBounds i true).getD j true = true → (a.put o.dst (val x' i)).tmps.getD d undef = val x' j) ∧ (∀ j o' d, ops[j]? = some o' → o'.dst = some d → (L.setIfInBounds i true).getD j true = false → (a.put o.dst (val x' i)).tmps.getD d undef = tm0.getD d undef) := by
      intro x' w' hag hS'
      cases hod : o.dst with
      | none =>
        refine ⟨hS', hdf, hsz, hlow, fun j o' d ho' hd' hl' => ?_, fun j o' d ho' hd' hl' => ?_⟩
        · have hne : i ≠ j := fun e => by subst e; rw [ho] at ho'; injection ho' with ho'; subst ho'; rw [hod] at hd'; cases hd'
          rw [getD_set_true, if_neg (fun h => hne h.1)] at hl'
          rw [hag j hl']; exact hval j o' d ho' hd' hl'
        · have hne : i ≠ j := fun e => by subst e; rw [ho] at ho'; injection ho' with ho'; subst ho'; rw [hod] at hd'; cases hd'
          rw [getD_set_true, if_neg (fun h => hne h.1)] at hl'
          exact hold j o' d ho' hd' hl'
      | some d0 =>
        have hput : ∀ t, (a.put (some d0) (val x' i)).tmps.getD t undef = if d0 = t ∧ t < a.tmps.size then val x' i else a.tmps.getD t undef := by
          intro t
          unfold Act.put
          simp only [Array.getD_eq_getD_getElem?, Array.getElem?_setIfInBounds]
          by_cases e : d0 = t
          · subst e
            by_cases h : d0 < a.tmps.size
            · simp [h]
            · simp [h]
          · simp [e]
        refine ⟨hS', hdf, by simp [Act.put, hsz], fun t ht => ?_, fun j o' d ho' hd' hl' => ?_, fun j o' d ho' hd' hl' => ?_⟩
        · rw [hput, if_neg (fun h => ?_)]
          · exact hlow t ht
          · have := List.all_eq_true.1 ht i (List.mem_range.2 (Array.getElem?_eq_some_iff.1 ho).1)
            rw [ho] at this
            simp [hod, h.1] at this
        · rw [hput]
          by_cases e : d0 = d
          · subst e
            have hij := ownDst_inj hown ho hod ho' hd'
            subst hij
            rw [if_pos ⟨rfl, by rw [hsz]; exact ownDst_lt hown ho hod⟩]
          · rw [if_neg (fun h => e h.1)]
            have hne : i ≠ j := fun e' => by subst e'; rw [ho] at ho'; injection ho' with ho'; subst ho'; rw [hod] at hd'; injection hd' with hd'; exact e hd'
            rw [getD_set_true, if_neg (fun h => hne h.1)] at hl'
            rw [hag j hl']; exact hval j o' d ho' hd' hl'
        · have hli : i ≠ j := fun e => by
            subst e
            have hC1 : i < L.size := by rw [hC.1]; exact (Array.getElem?_eq_some_iff.1 ho).1
            rw [getD_set_true, if_pos ⟨rfl, hC1⟩] at hl'; cases hl'
          rw [getD_set_true, if_neg (fun h => hli h.1)] at hl'
          have hdd : d0 ≠ d := fun e => by subst e; exact hli (ownDst_inj hown ho' hd' ho hod)
          rw [hput, if_neg (fun h => hdd h.1)]
          exact hold j o' d ho' hd' hl'
    rcases hst with ⟨x', w', hag, hr, hS'⟩ | ⟨f, args, hr, hc⟩ | ⟨x', w', hag, hnd, hr, hS'⟩
    · exact wpOp_value ho hg hr ⟨x', next x' w' hag hS'⟩
    · refine wpOp_enter ho hg hr (hc.mono ?_)
      rintro e w' ⟨x', hag, rfl, hS'⟩
      exact ⟨_, rfl, x', next x' w' hag hS'⟩
    · refine wpOp_skip ho hg hr ⟨x', ?_⟩
      have h := next x' w' hag hS'
      rw [hnd] at h ⊢
      exact h
end
end Go.Proofs.YtjemjdlaoebffaaDoor

end
section
namespace Go.Proofs.YtjemjdlaoebffaaDoor
section
variable {F : Fence} {n : Nat} {P : Program} {ops : Array Oper} {Q : Exit → Act → World → Prop}
theorem wpAnyIn_inv (Inv : Array Bool → Act → World → Prop) (hback : ∀ (i : Nat) (o : Oper), ops[i]? = some o → ∀ e ∈ o.after, e.on < i)
    (hdone : ∀ listed a w, Inv listed a w → (∀ i, i < ops.size → listed.getD i true = true) → Q .normal a w)
    (hstep : ∀ listed a w (i : Nat) (o : Oper), Closed ops listed → Inv listed a w → ops[i]? = some o → listed.getD i true = false → (∀ e ∈ o.after, Region.binds .any e = true → listed.getD e.on false = true) → wpOpIn F n P ops Q i (fun a' w' => Inv (listed.setIfInBounds i true) a' w') a w) :
    ∀ (fuel : Nat) (listed : Array Bool) (a : Act) (w : World), Closed ops listed → unl ops listed ≤ fuel → Inv listed a w → wpAnyIn F n P .any ops Q fuel listed a w
  | 0, listed, a, w, hc, hf, hi => by
    have hr : Region.ready .any ops listed = [] := by
      apply List.eq_nil_iff_forall_not_mem.2
      intro i hm
      obtain ⟨hl, o, ho, _⟩ := mem_ready.1 hm
      have hpos : 0 < unl ops listed := List.countP_pos_iff.2 ⟨i, List.mem_range.2 (Array.getElem?_eq_some_iff.1 ho).1, by rw [hl]; rfl⟩
      omega
    exact ⟨hr, hdone listed a w hi (all_of_ready hc.1 hback hr)⟩
  | fuel + 1, listed, a, w, hc, hf, hi => by
    refine ⟨fun hr => hdone listed a w hi (all_of_ready hc.1 hback hr), fun i hm => ?_⟩
    obtain ⟨hl, o, ho, hall⟩ := mem_ready.1 hm
    have hlt : i < ops.size := (Array.getElem?_eq_some_iff.1 ho).1
    refine wpOpIn_mono (fun a' w' hi' => wpAnyIn_inv Inv hback hdone hstep fuel _ a' w' (hc.step hm) ?_ hi') (hstep listed a w i o hc hi ho hl hall)
    have : unl ops (listed.setIfInBounds i true) < unl ops listed := by
      refine countP_lt (i := i) (fun x hx => ?_) (by rw [hl]; rfl) ?_ _ (List.mem_range.2 hlt)
      · rw [getD_set_true] at hx
        by_cases h : i = x ∧ x < listed.size
        · rw [if_pos h] at hx; cases hx
        · rwa [if_neg h] at hx
      · rw [getD_set_true, if_pos ⟨rfl, by rw [hc.1]; exact hlt⟩]; rfl
    omega
theorem wpIn_region_inv {id : Nat} {a : Act} {w : World} (hm : P.follows .mixedOrders = true) (Inv : Array Bool → Act → World → Prop) (hback : ∀ (i : Nat) (o : Oper), ops[i]? = some o → ∀ e ∈ o.after, e.on < i)
    (h0 : Inv (Array.replicate ops.size false) a w.drew)
    (hdone : ∀ listed a w, Inv listed a w → (∀ i, i < ops.size → listed.getD i true = true) → Q .normal a w)
    (hstep : ∀ listed a w (i : Nat) (o : Oper), Closed ops listed → Inv listed a w → ops[i]? = some o → listed.getD i true = false → (∀ e ∈ o.after, Region.binds .any e = true → listed.getD e.on false = true) → wpOpIn F n P ops Q i (fun a' w' => Inv (listed.setIfInBounds i true) a' w') a w) :
    (Code.region id ops true).wpIn F n P Q a w :=
  wpIn_region_any hm (wpAnyIn_inv Inv hback hdone hstep _ _ _ _ Closed.start (Nat.le_trans List.countP_le_length (by simp)) h0)
/-- No operation is a defer statement. -/
def calmB (ops : Array Oper) : Bool := ops.all fun o => match o.op with
  | .defer _ => false
  | _ => true
theorem calm_of (h : calmB ops = true) {i : Nat} {o : Oper} (ho : ops[i]? = some o) : ∀ c, o.op ≠ .defer c := by
  intro c e
  unfold calmB at h
  rw [Array.all_eq_true_iff_forall_mem] at h
  have := h o (Array.mem_of_getElem? ho)
  rw [e] at this
  cases this
theorem semAt_calm (hc : calmB ops = true) {i : Nat} {o : Oper} (ho : ops[i]? = some o) (r : Option Nat) (ρ : Operand → Value) : Oper.semAt r ρ o = execOp ρ o := by
  cases r with
  | none => rfl
  | some l => exact Oper.semAt_some l ρ o (calm_of hc ho)
theorem wpOpIn_valueR (hF : ∀ f, F.fn f) (hc : calmB ops = true) {i : Nat} {o : Oper} {a : Act} {w w' : World} {v : Value} {K : Act → World → Prop} (ho : ops[i]? = some o) (hg : o.guard = none) (hr : (execOp a.eval o).run P w = .ok (.value v) w') (hK : K (a.put o.dst v) w') : wpOpIn F n P ops Q i K a w := by
  refine wpOpIn_step ho fun K' hKK => ?_
  simp only [Region.wanted, hg, if_true]
  refine ⟨fun f _ => hF f, ?_⟩
  rw [semAt_calm hc ho, hr]
  exact hKK _ _ hK
theorem wpOpIn_skipR (hF : ∀ f, F.fn f) (hc : calmB ops = true) {i : Nat} {o : Oper} {a : Act} {w w' : World} {K : Act → World → Prop} (ho : ops[i]? = some o) (hg : o.guard = none) (hr : (execOp a.eval o).run P w = .ok .skip w') (hK : K (a.put o.dst undef) w') : wpOpIn F n P ops Q i K a w := by
  refine wpOpIn_step ho fun K' hKK => ?_
  simp only [Region.wanted, hg, if_true]
  refine ⟨fun f _ => hF f, ?_⟩
  rw [semAt_calm hc ho, hr]
  exact hKK _ _ hK
def StepR {γ : Type} (P : Program) (S : γ → Array Bool → World → Prop) (val : γ → Nat → Value) (x : γ) (L : Array Bool) (i : Nat) (o : Oper) (a : Act) (w : World) : Prop :=
  (∃ x' w', (∀ j, L.getD j true = true → val x' j = val x j) ∧ (execOp a.eval o).run P w = .ok (.value (val x' i)) w' ∧ S x' (L.setIfInBounds i true) w') ∨
  (∃ x' w', (∀ j, L.getD j true = true → val x' j = val x j) ∧ o.dst = none ∧ (execOp a.eval o).run P w = .ok .skip w' ∧ S x' (L.setIfInBounds i true) w')
theorem wpIn_region_detR {γ : Type} (hF : ∀ f, F.fn f) (hcalm : calmB ops = true) {id : Nat} {tm0 : Array Value} {df : List Deferred} {w : World} (hm : P.follows .mixedOrders = true) (S : γ → Array Bool → World → Prop) (val : γ → Nat → Value) (x0 : γ) (hback : backB ops = true) (hown : ownDst ops tm0.size = true)
    (h0 : S x0 (Array.replicate ops.size false) w.drew)
    (hdone : ∀ (x : γ) (L : Array Bool) (tm : Array Value) (w : World), (∀ i, i < ops.size → L.getD i true = true) → S x L w → tm.size = tm0.size → (∀ t, ((List.range ops.size).all fun j => !((ops[j]?).bind (·.dst) == some t)) = true → tm.getD t undef = tm0.getD t undef) → (∀ j o d, ops[j]? = some o → o.dst = some d → tm.getD d undef = val x j) → Q .normal ⟨tm, df⟩ w)
    (hstep : ∀ (x : γ) (L : Array Bool) (a : Act) (w : World) (i : Nat) (o : Oper), L.size = ops.size → ops[i]? = some o → L.getD i true = false → (∀ j, edgeB ops i j = true → L.getD j true = true) → (∀ j, edgeB ops j i = true → L.getD j true = false) → S x L w → (∀ t, ((List.range ops.size).all fun j => !((ops[j]?).bind (·.dst) == some t)) = true → a.tmps.getD t undef = tm0.getD t undef) →
      (∀ j oj d, edgeB ops i j = true → ops[j]? = some oj → oj.dst = some d → a.tmps.getD d undef = val x j) →
      (∀ j oj d, edgeB ops j i = true → ops[j]? = some oj → oj.dst = some d → a.tmps.getD d undef = tm0.getD d undef) → o.guard = none ∧ StepR P S val x L i o a w) :
    (Code.region id ops true).wpIn F n P Q ⟨tm0, df⟩ w := by
  refine wpIn_region_inv hm (fun L a w => ∃ x, S x L w ∧ a.defers = df ∧ a.tmps.size = tm0.size ∧ (∀ t, ((List.range ops.size).all fun j => !((ops[j]?).bind (·.dst) == some t)) = true → a.tmps.getD t undef = tm0.getD t undef) ∧ (∀ j o d, ops[j]? = some o → o.dst = some d → L.getD j true = true → a.tmps.getD d undef = val x j) ∧ (∀ j o d, ops[j]? = some o → o.dst = some d → L.getD j true = false → a.tmps.getD d undef = tm0.getD d undef)) (back_of hback) ?_ ?_ ?_
  · refine ⟨x0, h0, rfl, rfl, fun _ _ => rfl, fun j o d ho _ hl => ?_, fun _ _ _ _ _ _ => rfl⟩
    have hj : j < ops.size := (Array.getElem?_eq_some_iff.1 ho).1
    simp [Array.getD_eq_getD_getElem?, hj] at hl
  · intro L a w ⟨x, hS, hdf, hsz, hlow, hval, _⟩ hall
    obtain ⟨tm, df'⟩ := a
    simp only at hdf hsz
    subst hdf
    exact hdone x L tm w hall hS hsz hlow (fun j o d ho hd => hval j o d ho hd (hall j (Array.getElem?_eq_some_iff.1 ho).1))
  · intro L a w i o hC ⟨x, hS, hdf, hsz, hlow, hval, hold⟩ ho hl hd
    obtain ⟨hg, hst⟩ := hstep x L a w i o hC.1 ho hl (fun j he => dep_of ho hd he) (fun j he => hC.no he hl) hS hlow (fun j oj d he hoj hdj => hval j oj d hoj hdj (dep_of ho hd he)) (fun j oj d he hoj hdj => hold j oj d hoj hdj (hC.no he hl))
    have next : ∀ x' w', (∀ j, L.getD j true = true → val x' j = val x j) → S x' (L.setIfInBounds i true) w' → S x' (L.setIfInBounds i true) w' ∧ (a.put o.dst (val x' i)).defers = df ∧ (a.put o.dst (val x' i)).tmps.size = tm0.size ∧ (∀ t, ((List.range ops.size).all fun j => !((ops[j]?).bind (·.dst) == some t)) = true → (a.put o.dst (val x' i)).tmps.getD t undef = tm0.getD t undef) ∧ (∀ j o' d, ops[j]? = some o' → o'.dst = some d → (L.setIfInBounds i true).getD j true = true → (a.put o.dst (val x' i)).tmps.getD d undef = val x' j) ∧ (∀ j o' d, ops[j]? = some o' → o'.dst = some d → (L.setIfInBounds i true).getD j true = false → (a.put o.dst (val x' i)).tmps.getD d undef = tm0.getD d undef) := by
      intro x' w' hag hS'
      cases hod : o.dst with
      | none =>
        refine ⟨hS', hdf, hsz, hlow, fun j o' d ho' hd' hl' => ?_, fun j o' d ho' hd' hl' => ?_⟩
        · have hne : i ≠ j := fun e => by subst e; rw [ho] at ho'; injection ho' with ho'; subst ho'; rw [hod] at hd'; cases hd'
          rw [getD_set_true, if_neg (fun h => hne h.1)] at hl'
          rw [hag j hl']; exact hval j o' d ho' hd' hl'
        · have hne : i ≠ j := fun e => by subst e; rw [ho] at ho'; injection ho' with ho'; subst ho'; rw [hod] at hd'; cases hd'
          rw [getD_set_true, if_neg (fun h => hne h.1)] at hl'
          exact hold j o' d ho' hd' hl'
      | some d0 =>
        have hput : ∀ t, (a.put (some d0) (val x' i)).tmps.getD t undef = if d0 = t ∧ t < a.tmps.size then val x' i else a.tmps.getD t undef := by
          intro t
          unfold Act.put
          simp only [Array.getD_eq_getD_getElem?, Array.getElem?_setIfInBounds]
          by_cases e : d0 = t
          · subst e
            by_cases h : d0 < a.tmps.size
            · simp [h]
            · simp [h]
          · simp [e]
        refine ⟨hS', hdf, by simp [Act.put, hsz], fun t ht => ?_, fun j o' d ho' hd' hl' => ?_, fun j o' d ho' hd' hl' => ?_⟩
        · rw [hput, if_neg (fun h => ?_)]
          · exact hlow t ht
          · have := List.all_eq_true.1 ht i (List.mem_range.2 (Array.getElem?_eq_some_iff.1 ho).1)
            rw [ho] at this
            simp [hod, h.1] at this
        · rw [hput]
          by_cases e : d0 = d
          · subst e
            have hij := ownDst_inj hown ho hod ho' hd'
            subst hij
            rw [if_pos ⟨rfl, by rw [hsz]; exact ownDst_lt hown ho hod⟩]
          · rw [if_neg (fun h => e h.1)]
            have hne : i ≠ j := fun e' => by subst e'; rw [ho] at ho'; injection ho' with ho'; subst ho'; rw [hod] at hd'; injection hd' with hd'; exact e hd'
            rw [getD_set_true, if_neg (fun h => hne h.1)] at hl'
            rw [hag j hl']; exact hval j o' d ho' hd' hl'
        · have hli : i ≠ j := fun e => by
            subst e
            have hC1 : i < L.size := by rw [hC.1]; exact (Array.getElem?_eq_some_iff.1 ho).1
            rw [getD_set_true, if_pos ⟨rfl, hC1⟩] at hl'; cases hl'
          rw [getD_set_true, if_neg (fun h => hli h.1)] at hl'
          have hdd : d0 ≠ d := fun e => by subst e; exact hli (ownDst_inj hown ho' hd' ho hod)
          rw [hput, if_neg (fun h => hdd h.1)]
          exact hold j o' d ho' hd' hl'
    rcases hst with ⟨x', w', hag, hr, hS'⟩ | ⟨x', w', hag, hnd, hr, hS'⟩
    · exact wpOpIn_valueR hF hcalm ho hg hr ⟨x', next x' w' hag hS'⟩
    · refine wpOpIn_skipR hF hcalm ho hg hr ⟨x', ?_⟩
      have h := next x' w' hag hS'
      rw [hnd] at h ⊢
      exact h
end
end Go.Proofs.YtjemjdlaoebffaaDoor

end
section
namespace Go.Proofs.YtjemjdlaoebffaaDoor
section
variable {P : Program} {ops : Array Oper} {Q : Exit → Act → World → Prop}
theorem wpOp_valueW {i : Nat} {o : Oper} {a : Act} {w w' : World} {v : Value} {K : Act → World → Prop} (ho : ops[i]? = some o) (hg : Region.wanted o (yielded ops a.tmps) = true) (hr : (execOp a.eval o).run P w = .ok (.value v) w') (hK : K (a.put o.dst v) w') : wpOp P ops Q i K a w := by
  unfold wpOp
  rw [ho]
  simp only [hg, if_true]
  left
  unfold Oper.wp
  rw [hr]
  exact hK
theorem wpOp_enterW {i : Nat} {o : Oper} {a : Act} {w w' : World} {f : FuncId} {args : Array Value} {K : Act → World → Prop} (ho : ops[i]? = some o) (hg : Region.wanted o (yielded ops a.tmps) = true) (hr : (execOp a.eval o).run P w = .ok (.enter f args) w') (hK : Calls P f args w' fun e w'' => ∃ v, e = .returned v ∧ K (a.put o.dst v) w'') : wpOp P ops Q i K a w := by
  unfold wpOp
  rw [ho]
  simp only [hg, if_true]
  left
  unfold Oper.wp
  rw [hr]
  refine Calls.mono hK ?_
  rintro e w'' ⟨v, rfl, h⟩
  exact h
/-- What is not guarded is wanted. -/
theorem wanted_free {o : Oper} {y : Nat → Option Bool} (h : o.guard = none) : Region.wanted o y = true := by simp [Region.wanted, h]
/-- What is guarded is wanted where the guard has the value that it asks. -/
theorem wanted_guard {o og : Oper} {tm : Array Value} {g d : Nat} {b : Bool} (h : o.guard = some (g, b)) (hg : ops[g]? = some og) (hd : og.dst = some d) (hv : tm.getD d undef = .bool b) : Region.wanted o (yielded ops tm) = true := by
  have hy : yielded ops tm g = some b := by
    unfold yielded
    rw [hg, Option.bind_some, hd, Option.bind_some]
    rw [Array.getD_eq_getD_getElem?] at hv
    cases ht : tm[d]? with
    | none => rw [ht] at hv; simp [undef] at hv
    | some v => rw [ht, Option.getD_some] at hv; subst hv; rfl
  simp [Region.wanted, h, hy]
/-- A region all of whose operations yield one value each, in whatever order they come up. -/
theorem wp_region_detW {id : Nat} {tm0 : Array Value} {df : List Deferred} {w : World} (hm : P.follows .mixedOrders = true) (S : Array Bool → World → Prop) (val : Nat → Value) (hback : backB ops = true) (hown : ownDst ops tm0.size = true)
    (h0 : S (Array.replicate ops.size false) w.drew)
    (hdone : ∀ (L : Array Bool) (tm : Array Value) (w : World), (∀ i, i < ops.size → L.getD i true = true) → S L w → tm.size = tm0.size → (∀ t, ((List.range ops.size).all fun j => !((ops[j]?).bind (·.dst) == some t)) = true → tm.getD t undef = tm0.getD t undef) → (∀ j o d, ops[j]? = some o → o.dst = some d → tm.getD d undef = val j) → Q .normal ⟨tm, df⟩ w)
    (hstep : ∀ (L : Array Bool) (a : Act) (w : World) (i : Nat) (o : Oper), L.size = ops.size → ops[i]? = some o → L.getD i true = false → (∀ j, edgeB ops i j = true → L.getD j true = true) → (∀ j, edgeB ops j i = true → L.getD j true = false) → S L w → (∀ t, ((List.range ops.size).all fun j => !((ops[j]?).bind (·.dst) == some t)) = true → a.tmps.getD t undef = tm0.getD t undef) →
      (∀ j oj d, edgeB ops i j = true → ops[j]? = some oj → oj.dst = some d → a.tmps.getD d undef = val j) →
      (∀ j oj d, edgeB ops j i = true → ops[j]? = some oj → oj.dst = some d → a.tmps.getD d undef = tm0.getD d undef) → Region.wanted o (yielded ops a.tmps) = true ∧ StepTo P (S (L.setIfInBounds i true)) o a w (val i)) :
    (Code.region id ops true).wp P Q ⟨tm0, df⟩ w := by
  refine wp_region_inv hm (fun L a w => S L w ∧ a.defers = df ∧ a.tmps.size = tm0.size ∧ (∀ t, ((List.range ops.size).all fun j => !((ops[j]?).bind (·.dst) == some t)) = true → a.tmps.getD t undef = tm0.getD t undef) ∧ (∀ j o d, ops[j]? = some o → o.dst = some d → L.getD j true = true → a.tmps.getD d undef = val j) ∧ (∀ j o d, ops[j]? = some o → o.dst = some d → L.getD j true = false → a.tmps.getD d undef = tm0.getD d undef)) (back_of hback) ?_ ?_ ?_
  · refine ⟨h0, rfl, rfl, fun _ _ => rfl, fun j o d ho _ hl => ?_, fun _ _ _ _ _ _ => rfl⟩
    have hj : j < ops.size := (Array.getElem?_eq_some_iff.1 ho).1
    simp [Array.getD_eq_getD_getElem?, hj] at hl
  · intro L a w ⟨hS, hdf, hsz, hlow, hval, _⟩ hall
    obtain ⟨tm, df'⟩ := a
    simp only at hdf hsz
    subst hdf
    exact hdone L tm w hall hS hsz hlow (fun j o d ho hd => hval j o d ho hd (hall j (Array.getElem?_eq_some_iff.1 ho).1))
  · intro L a w i o hC ⟨hS, hdf, hsz, hlow, hval, hold⟩ ho hl hd
    obtain ⟨hg, hst⟩ := hstep L a w i o hC.1 ho hl (fun j he => dep_of ho hd he) (fun j he => hC.no he hl) hS hlow (fun j oj d he hoj hdj => hval j oj d hoj hdj (dep_of ho hd he)) (fun j oj d he hoj hdj => hold j oj d hoj hdj (hC.no he hl))
    have next : ∀ w', S (L.setIfInBounds i true) w' → S (L.setIfInBounds i true) w' ∧ (a.put o.dst (val i)).defers = df ∧ (a.put o.dst (val i)).tmps.size = tm0.size ∧ (∀ t, ((List.range ops.size).all fun j => !((ops[j]?).bind (·.dst) == some t)) = true → (a.put o.dst (val i)).tmps.getD t undef = tm0.getD t undef) ∧ (∀ j o' d, ops[j]? = some o' → o'.dst = some d → (L.setIfInBounds i true).getD j true = true → (a.put o.dst (val i)).tmps.getD d undef = val j) ∧ (∀ j o' d, ops[j]? = some o' → o'.dst = some d → (L.setIfInBounds i true).getD j true = false → (a.put o.dst (val i)).tmps.getD d undef = tm0.getD d undef) := by
      intro w' hS'
      cases hod : o.dst with
      | none =>
        refine ⟨hS', hdf, hsz, hlow, fun j o' d ho' hd' hl' => ?_, fun j o' d ho' hd' hl' => ?_⟩
        · have hne : i ≠ j := fun e => by subst e; rw [ho] at ho'; injection ho' with ho'; subst ho'; rw [hod] at hd'; cases hd'
          rw [getD_set_true, if_neg (fun h => hne h.1)] at hl'
          exact hval j o' d ho' hd' hl'
        · have hne : i ≠ j := fun e => by subst e; rw [ho] at ho'; injection ho' with ho'; subst ho'; rw [hod] at hd'; cases hd'
          rw [getD_set_true, if_neg (fun h => hne h.1)] at hl'
          exact hold j o' d ho' hd' hl'
      | some d0 =>
        have hput : ∀ t, (a.put (some d0) (val i)).tmps.getD t undef = if d0 = t ∧ t < a.tmps.size then val i else a.tmps.getD t undef := by
          intro t
          unfold Act.put
          simp only [Array.getD_eq_getD_getElem?, Array.getElem?_setIfInBounds]
          by_cases e : d0 = t
          · subst e
            by_cases h : d0 < a.tmps.size
            · simp [h]
            · simp [h]
          · simp [e]
        refine ⟨hS', hdf, by simp [Act.put, hsz], fun t ht => ?_, fun j o' d ho' hd' hl' => ?_, fun j o' d ho' hd' hl' => ?_⟩
        · rw [hput, if_neg (fun h => ?_)]
          · exact hlow t ht
          · have := List.all_eq_true.1 ht i (List.mem_range.2 (Array.getElem?_eq_some_iff.1 ho).1)
            rw [ho] at this
            simp [hod, h.1] at this
        · rw [hput]
          by_cases e : d0 = d
          · subst e
            have hij := ownDst_inj hown ho hod ho' hd'
            subst hij
            rw [if_pos ⟨rfl, by rw [hsz]; exact ownDst_lt hown ho hod⟩]
          · rw [if_neg (fun h => e h.1)]
            have hne : i ≠ j := fun e' => by subst e'; rw [ho] at ho'; injection ho' with ho'; subst ho'; rw [hod] at hd'; injection hd' with hd'; exact e hd'
            rw [getD_set_true, if_neg (fun h => hne h.1)] at hl'
            exact hval j o' d ho' hd' hl'
        · have hli : i ≠ j := fun e => by
            subst e
            have hC1 : i < L.size := by rw [hC.1]; exact (Array.getElem?_eq_some_iff.1 ho).1
            rw [getD_set_true, if_pos ⟨rfl, hC1⟩] at hl'; cases hl'
          rw [getD_set_true, if_neg (fun h => hli h.1)] at hl'
          have hdd : d0 ≠ d := fun e => by subst e; exact hli (ownDst_inj hown ho' hd' ho hod)
          rw [hput, if_neg (fun h => hdd h.1)]
          exact hold j o' d ho' hd' hl'
    rcases hst with ⟨w', hr, hS'⟩ | ⟨f, args, hr, hc⟩
    · exact wpOp_valueW ho hg hr (next w' hS')
    · refine wpOp_enterW ho hg hr (hc.mono ?_)
      rintro e w' ⟨rfl, hS'⟩
      exact ⟨_, rfl, next w' hS'⟩
end
end Go.Proofs.YtjemjdlaoebffaaDoor

end
section
namespace Go.Proofs.YtjemjdlaoebffaaDoor
section
variable {P : Program} {ops : Array Oper} {Q : Exit → Act → World → Prop}
theorem all_of_readyB {listed : Array Bool} (hs : listed.size = ops.size) (hback : ∀ (i : Nat) (o : Oper), ops[i]? = some o → ∀ e ∈ o.after, Region.binds .any e = true → e.on < i) (hr : Region.ready .any ops listed = []) : ∀ i, i < ops.size → listed.getD i true = true := by
  intro i
  induction i using Nat.strongRecOn with
  | _ i ih =>
    intro hi
    cases hl : listed.getD i true with
    | true => rfl
    | false =>
      have : i ∈ Region.ready .any ops listed := mem_ready.2 ⟨hl, ops[i], Array.getElem?_eq_getElem hi, fun e he hbd => by
        have h1 := hback i _ (Array.getElem?_eq_getElem hi) e he hbd
        have h2 := ih e.on h1 (by omega)
        have h3 : e.on < listed.size := by omega
        simp only [Array.getD_eq_getD_getElem?, Array.getElem?_eq_getElem h3, Option.getD_some] at h2 ⊢
        exact h2⟩
      rw [hr] at this; cases this
theorem wpAny_invB (Inv : Array Bool → Act → World → Prop) (hback : ∀ (i : Nat) (o : Oper), ops[i]? = some o → ∀ e ∈ o.after, Region.binds .any e = true → e.on < i)
    (hdone : ∀ listed a w, Inv listed a w → (∀ i, i < ops.size → listed.getD i true = true) → Q .normal a w)
    (hstep : ∀ listed a w (i : Nat) (o : Oper), Closed ops listed → Inv listed a w → ops[i]? = some o → listed.getD i true = false → (∀ e ∈ o.after, Region.binds .any e = true → listed.getD e.on false = true) → wpOp P ops Q i (fun a' w' => Inv (listed.setIfInBounds i true) a' w') a w) :
    ∀ (fuel : Nat) (listed : Array Bool) (a : Act) (w : World), Closed ops listed → unl ops listed ≤ fuel → Inv listed a w → wpAny P .any ops Q fuel listed a w
  | 0, listed, a, w, hc, hf, hi => by
    have hr : Region.ready .any ops listed = [] := by
      apply List.eq_nil_iff_forall_not_mem.2
      intro i hm
      obtain ⟨hl, o, ho, _⟩ := mem_ready.1 hm
      have hpos : 0 < unl ops listed := List.countP_pos_iff.2 ⟨i, List.mem_range.2 (Array.getElem?_eq_some_iff.1 ho).1, by rw [hl]; rfl⟩
      omega
    exact ⟨hr, hdone listed a w hi (all_of_readyB hc.1 hback hr)⟩
  | fuel + 1, listed, a, w, hc, hf, hi => by
    refine ⟨fun hr => hdone listed a w hi (all_of_readyB hc.1 hback hr), fun i hm => ?_⟩
    obtain ⟨hl, o, ho, hall⟩ := mem_ready.1 hm
    have hlt : i < ops.size := (Array.getElem?_eq_some_iff.1 ho).1
    refine wpOp_mono (fun a' w' hi' => wpAny_invB Inv hback hdone hstep fuel _ a' w' (hc.step hm) ?_ hi') (hstep listed a w i o hc hi ho hl hall)
    have : unl ops (listed.setIfInBounds i true) < unl ops listed := by
      refine countP_lt (i := i) (fun x hx => ?_) (by rw [hl]; rfl) ?_ _ (List.mem_range.2 hlt)
      · rw [getD_set_true] at hx
        by_cases h : i = x ∧ x < listed.size
        · rw [if_pos h] at hx; cases hx
        · rwa [if_neg h] at hx
      · rw [getD_set_true, if_pos ⟨rfl, by rw [hc.1]; exact hlt⟩]; rfl
    omega
theorem wp_region_invB {id : Nat} {a : Act} {w : World} (hm : P.follows .mixedOrders = true) (Inv : Array Bool → Act → World → Prop) (hback : ∀ (i : Nat) (o : Oper), ops[i]? = some o → ∀ e ∈ o.after, Region.binds .any e = true → e.on < i)
    (h0 : Inv (Array.replicate ops.size false) a w.drew)
    (hdone : ∀ listed a w, Inv listed a w → (∀ i, i < ops.size → listed.getD i true = true) → Q .normal a w)
    (hstep : ∀ listed a w (i : Nat) (o : Oper), Closed ops listed → Inv listed a w → ops[i]? = some o → listed.getD i true = false → (∀ e ∈ o.after, Region.binds .any e = true → listed.getD e.on false = true) → wpOp P ops Q i (fun a' w' => Inv (listed.setIfInBounds i true) a' w') a w) :
    (Code.region id ops true).wp P Q a w :=
  wp_region_any hm (wpAny_invB Inv hback hdone hstep _ _ _ _ Closed.start (Nat.le_trans List.countP_le_length (by simp)) h0)
def backBB (ops : Array Oper) : Bool := (List.range ops.size).all fun i => match ops[i]? with
  | some o => o.after.all fun e => (!Region.binds .any e || decide (e.on < i))
  | none => true
theorem back_ofB (h : backBB ops = true) : ∀ (i : Nat) (o : Oper), ops[i]? = some o → ∀ e ∈ o.after, Region.binds .any e = true → e.on < i := by
  intro i o ho e he hbd
  unfold backBB at h
  have h1 := List.all_eq_true.1 h i (List.mem_range.2 (Array.getElem?_eq_some_iff.1 ho).1)
  rw [ho] at h1
  simp only at h1
  rw [Array.all_eq_true_iff_forall_mem] at h1
  have h2 := h1 e he
  rw [hbd] at h2
  simpa using h2
theorem wpOp_skipY {i : Nat} {o : Oper} {a : Act} {w w' : World} {K : Act → World → Prop} (ho : ops[i]? = some o) (hg : Region.wanted o (yielded ops a.tmps) = true) (hr : (execOp a.eval o).run P w = .ok .skip w') (hK : K (a.put o.dst undef) w') : wpOp P ops Q i K a w := by
  unfold wpOp
  rw [ho]
  simp only [hg, if_true]
  left
  unfold Oper.wp
  rw [hr]
  exact hK
def StepY (P : Program) (K : World → Prop) (o : Oper) (a : Act) (w : World) (v : Value) : Prop :=
  StepTo P K o a w v ∨ ∃ w', o.dst = none ∧ (execOp a.eval o).run P w = .ok .skip w' ∧ K w'
/-- A region with guards that are wanted, in whatever order: each operation yields one value, or stores. -/
theorem wp_region_detY {id : Nat} {tm0 : Array Value} {df : List Deferred} {w : World} (hm : P.follows .mixedOrders = true) (S : Array Bool → World → Prop) (val : Nat → Value) (hback : backBB ops = true) (hown : ownDst ops tm0.size = true)
    (h0 : S (Array.replicate ops.size false) w.drew)
    (hdone : ∀ (L : Array Bool) (tm : Array Value) (w : World), (∀ i, i < ops.size → L.getD i true = true) → S L w → tm.size = tm0.size → (∀ t, ((List.range ops.size).all fun j => !((ops[j]?).bind (·.dst) == some t)) = true → tm.getD t undef = tm0.getD t undef) → (∀ j o d, ops[j]? = some o → o.dst = some d → tm.getD d undef = val j) → Q .normal ⟨tm, df⟩ w)
    (hstep : ∀ (L : Array Bool) (a : Act) (w : World) (i : Nat) (o : Oper), L.size = ops.size → ops[i]? = some o → L.getD i true = false → (∀ j, edgeB ops i j = true → L.getD j true = true) → (∀ j, edgeB ops j i = true → L.getD j true = false) → S L w → (∀ t, ((List.range ops.size).all fun j => !((ops[j]?).bind (·.dst) == some t)) = true → a.tmps.getD t undef = tm0.getD t undef) →
      (∀ j oj d, edgeB ops i j = true → ops[j]? = some oj → oj.dst = some d → a.tmps.getD d undef = val j) →
      (∀ j oj d, edgeB ops j i = true → ops[j]? = some oj → oj.dst = some d → a.tmps.getD d undef = tm0.getD d undef) → Region.wanted o (yielded ops a.tmps) = true ∧ StepY P (S (L.setIfInBounds i true)) o a w (val i)) :
    (Code.region id ops true).wp P Q ⟨tm0, df⟩ w := by
  refine wp_region_invB hm (fun L a w => S L w ∧ a.defers = df ∧ a.tmps.size = tm0.size ∧ (∀ t, ((List.range ops.size).all fun j => !((ops[j]?).bind (·.dst) == some t)) = true → a.tmps.getD t undef = tm0.getD t undef) ∧ (∀ j o d, ops[j]? = some o → o.dst = some d → L.getD j true = true → a.tmps.getD d undef = val j) ∧ (∀ j o d, ops[j]? = some o → o.dst = some d → L.getD j true = false → a.tmps.getD d undef = tm0.getD d undef)) (back_ofB hback) ?_ ?_ ?_
  · refine ⟨h0, rfl, rfl, fun _ _ => rfl, fun j o d ho _ hl => ?_, fun _ _ _ _ _ _ => rfl⟩
    have hj : j < ops.size := (Array.getElem?_eq_some_iff.1 ho).1
    simp [Array.getD_eq_getD_getElem?, hj] at hl
  · intro L a w ⟨hS, hdf, hsz, hlow, hval, _⟩ hall
    obtain ⟨tm, df'⟩ := a
    simp only at hdf hsz
    subst hdf
    exact hdone L tm w hall hS hsz hlow (fun j o d ho hd => hval j o d ho hd (hall j (Array.getElem?_eq_some_iff.1 ho).1))
  · intro L a w i o hC ⟨hS, hdf, hsz, hlow, hval, hold⟩ ho hl hd
    obtain ⟨hg, hst⟩ := hstep L a w i o hC.1 ho hl (fun j he => dep_of ho hd he) (fun j he => hC.no he hl) hS hlow (fun j oj d he hoj hdj => hval j oj d hoj hdj (dep_of ho hd he)) (fun j oj d he hoj hdj => hold j oj d hoj hdj (hC.no he hl))
    have next : ∀ w', S (L.setIfInBounds i true) w' → S (L.setIfInBounds i true) w' ∧ (a.put o.dst (val i)).defers = df ∧ (a.put o.dst (val i)).tmps.size = tm0.size ∧ (∀ t, ((List.range ops.size).all fun j => !((ops[j]?).bind (·.dst) == some t)) = true → (a.put o.dst (val i)).tmps.getD t undef = tm0.getD t undef) ∧ (∀ j o' d, ops[j]? = some o' → o'.dst = some d → (L.setIfInBounds i true).getD j true = true → (a.put o.dst (val i)).tmps.getD d undef = val j) ∧ (∀ j o' d, ops[j]? = some o' → o'.dst = some d → (L.setIfInBounds i true).getD j true = false → (a.put o.dst (val i)).tmps.getD d undef = tm0.getD d undef) := by
      intro w' hS'
      cases hod : o.dst with
      | none =>
        refine ⟨hS', hdf, hsz, hlow, fun j o' d ho' hd' hl' => ?_, fun j o' d ho' hd' hl' => ?_⟩
        · have hne : i ≠ j := fun e => by subst e; rw [ho] at ho'; injection ho' with ho'; subst ho'; rw [hod] at hd'; cases hd'
          rw [getD_set_true, if_neg (fun h => hne h.1)] at hl'
          exact hval j o' d ho' hd' hl'
        · have hne : i ≠ j := fun e => by subst e; rw [ho] at ho'; injection ho' with ho'; subst ho'; rw [hod] at hd'; cases hd'
          rw [getD_set_true, if_neg (fun h => hne h.1)] at hl'
          exact hold j o' d ho' hd' hl'
      | some d0 =>
        have hput : ∀ t, (a.put (some d0) (val i)).tmps.getD t undef = if d0 = t ∧ t < a.tmps.size then val i else a.tmps.getD t undef := by
          intro t
          unfold Act.put
          simp only [Array.getD_eq_getD_getElem?, Array.getElem?_setIfInBounds]
          by_cases e : d0 = t
          · subst e
            by_cases h : d0 < a.tmps.size
            · simp [h]
            · simp [h]
          · simp [e]
        refine ⟨hS', hdf, by simp [Act.put, hsz], fun t ht => ?_, fun j o' d ho' hd' hl' => ?_, fun j o' d ho' hd' hl' => ?_⟩
        · rw [hput, if_neg (fun h => ?_)]
          · exact hlow t ht
          · have := List.all_eq_true.1 ht i (List.mem_range.2 (Array.getElem?_eq_some_iff.1 ho).1)
            rw [ho] at this
            simp [hod, h.1] at this
        · rw [hput]
          by_cases e : d0 = d
          · subst e
            have hij := ownDst_inj hown ho hod ho' hd'
            subst hij
            rw [if_pos ⟨rfl, by rw [hsz]; exact ownDst_lt hown ho hod⟩]
          · rw [if_neg (fun h => e h.1)]
            have hne : i ≠ j := fun e' => by subst e'; rw [ho] at ho'; injection ho' with ho'; subst ho'; rw [hod] at hd'; injection hd' with hd'; exact e hd'
            rw [getD_set_true, if_neg (fun h => hne h.1)] at hl'
            exact hval j o' d ho' hd' hl'
        · have hli : i ≠ j := fun e => by
            subst e
            have hC1 : i < L.size := by rw [hC.1]; exact (Array.getElem?_eq_some_iff.1 ho).1
            rw [getD_set_true, if_pos ⟨rfl, hC1⟩] at hl'; cases hl'
          rw [getD_set_true, if_neg (fun h => hli h.1)] at hl'
          have hdd : d0 ≠ d := fun e => by subst e; exact hli (ownDst_inj hown ho' hd' ho hod)
          rw [hput, if_neg (fun h => hdd h.1)]
          exact hold j o' d ho' hd' hl'
    rcases hst with (⟨w', hr, hS'⟩ | ⟨f, args, hr, hc⟩) | ⟨w', hnd, hr, hS'⟩
    · exact wpOp_valueW ho hg hr (next w' hS')
    · refine wpOp_enterW ho hg hr (hc.mono ?_)
      rintro e w' ⟨rfl, hS'⟩
      exact ⟨_, rfl, next w' hS'⟩
    · refine wpOp_skipY ho hg hr ?_
      have h := next w' hS'
      rw [hnd] at h ⊢
      exact h
end
end Go.Proofs.YtjemjdlaoebffaaDoor

end
section
namespace Go.Proofs.YtjemjdlaoebffaaDoor
section
variable {F : Fence} {n : Nat} {P : Program} {ops : Array Oper} {Q : Exit → Act → World → Prop}
/-- What is guarded is not wanted where the guard has the other value. -/
theorem wanted_other {o og : Oper} {tm : Array Value} {g d : Nat} {b : Bool} (h : o.guard = some (g, b)) (hg : ops[g]? = some og) (hd : og.dst = some d) (hv : tm.getD d undef = .bool (!b)) : Region.wanted o (yielded ops tm) = false := by
  have hy : yielded ops tm g = some (!b) := by
    unfold yielded
    rw [hg, Option.bind_some, hd, Option.bind_some]
    rw [Array.getD_eq_getD_getElem?] at hv
    cases ht : tm[d]? with
    | none => rw [ht] at hv; simp [undef] at hv
    | some v => rw [ht, Option.getD_some] at hv; subst hv; rfl
  cases b <;> simp [Region.wanted, h, hy]
/-- ..or where the guard was not wanted itself. -/
theorem wanted_undef {o og : Oper} {tm : Array Value} {g d : Nat} {b : Bool} (h : o.guard = some (g, b)) (hg : ops[g]? = some og) (hd : og.dst = some d) (hv : tm.getD d undef = undef) : Region.wanted o (yielded ops tm) = false := by
  have hy : yielded ops tm g = none := by
    unfold yielded
    rw [hg, Option.bind_some, hd, Option.bind_some]
    rw [Array.getD_eq_getD_getElem?] at hv
    cases ht : tm[d]? with
    | none => rfl
    | some v => rw [ht, Option.getD_some] at hv; subst hv; rfl
  simp [Region.wanted, h, hy]
theorem wpOpIn_valueX (hF : ∀ f, F.fn f) (hc : calmB ops = true) {i : Nat} {o : Oper} {a : Act} {w w' : World} {v : Value} {K : Act → World → Prop} (ho : ops[i]? = some o) (hg : Region.wanted o (yielded ops a.tmps) = true) (hr : (execOp a.eval o).run P w = .ok (.value v) w') (hK : K (a.put o.dst v) w') : wpOpIn F n P ops Q i K a w := by
  refine wpOpIn_step ho fun K' hKK => ?_
  rw [if_pos hg]
  refine ⟨fun f _ => hF f, ?_⟩
  rw [semAt_calm hc ho, hr]
  exact hKK _ _ hK
theorem wpOpIn_skipX (hF : ∀ f, F.fn f) (hc : calmB ops = true) {i : Nat} {o : Oper} {a : Act} {w w' : World} {K : Act → World → Prop} (ho : ops[i]? = some o) (hg : Region.wanted o (yielded ops a.tmps) = true) (hr : (execOp a.eval o).run P w = .ok .skip w') (hK : K (a.put o.dst undef) w') : wpOpIn F n P ops Q i K a w := by
  refine wpOpIn_step ho fun K' hKK => ?_
  rw [if_pos hg]
  refine ⟨fun f _ => hF f, ?_⟩
  rw [semAt_calm hc ho, hr]
  exact hKK _ _ hK
theorem wpOpIn_offX (hF : ∀ f, F.fn f) {i : Nat} {o : Oper} {a : Act} {w : World} {K : Act → World → Prop} (ho : ops[i]? = some o) (hg : Region.wanted o (yielded ops a.tmps) = false) (hK : K (a.put o.dst undef) w) : wpOpIn F n P ops Q i K a w := by
  refine wpOpIn_step ho fun K' hKK => ?_
  rw [if_neg (by rw [hg]; decide)]
  exact ⟨fun f _ => hF f, hKK _ _ hK⟩
/-- A step: an operation that is wanted, or one that is not. -/
def StepX {γ : Type} (P : Program) (ops : Array Oper) (S : γ → Array Bool → World → Prop) (val : γ → Nat → Value) (x : γ) (L : Array Bool) (i : Nat) (o : Oper) (a : Act) (w : World) : Prop :=
  (Region.wanted o (yielded ops a.tmps) = true ∧ StepR P S val x L i o a w) ∨
  (Region.wanted o (yielded ops a.tmps) = false ∧ val x i = undef ∧ S x (L.setIfInBounds i true) w)
theorem wpAnyIn_invB (Inv : Array Bool → Act → World → Prop) (hback : ∀ (i : Nat) (o : Oper), ops[i]? = some o → ∀ e ∈ o.after, Region.binds .any e = true → e.on < i)
    (hdone : ∀ listed a w, Inv listed a w → (∀ i, i < ops.size → listed.getD i true = true) → Q .normal a w)
    (hstep : ∀ listed a w (i : Nat) (o : Oper), Closed ops listed → Inv listed a w → ops[i]? = some o → listed.getD i true = false → (∀ e ∈ o.after, Region.binds .any e = true → listed.getD e.on false = true) → wpOpIn F n P ops Q i (fun a' w' => Inv (listed.setIfInBounds i true) a' w') a w) :
    ∀ (fuel : Nat) (listed : Array Bool) (a : Act) (w : World), Closed ops listed → unl ops listed ≤ fuel → Inv listed a w → wpAnyIn F n P .any ops Q fuel listed a w
  | 0, listed, a, w, hc, hf, hi => by
    have hr : Region.ready .any ops listed = [] := by
      apply List.eq_nil_iff_forall_not_mem.2
      intro i hm
      obtain ⟨hl, o, ho, _⟩ := mem_ready.1 hm
      have hpos : 0 < unl ops listed := List.countP_pos_iff.2 ⟨i, List.mem_range.2 (Array.getElem?_eq_some_iff.1 ho).1, by rw [hl]; rfl⟩
      omega
    exact ⟨hr, hdone listed a w hi (all_of_readyB hc.1 hback hr)⟩
  | fuel + 1, listed, a, w, hc, hf, hi => by
    refine ⟨fun hr => hdone listed a w hi (all_of_readyB hc.1 hback hr), fun i hm => ?_⟩
    obtain ⟨hl, o, ho, hall⟩ := mem_ready.1 hm
    have hlt : i < ops.size := (Array.getElem?_eq_some_iff.1 ho).1
    refine wpOpIn_mono (fun a' w' hi' => wpAnyIn_invB Inv hback hdone hstep fuel _ a' w' (hc.step hm) ?_ hi') (hstep listed a w i o hc hi ho hl hall)
    have : unl ops (listed.setIfInBounds i true) < unl ops listed := by
      refine countP_lt (i := i) (fun x hx => ?_) (by rw [hl]; rfl) ?_ _ (List.mem_range.2 hlt)
      · rw [getD_set_true] at hx
        by_cases h : i = x ∧ x < listed.size
        · rw [if_pos h] at hx; cases hx
        · rwa [if_neg h] at hx
      · rw [getD_set_true, if_pos ⟨rfl, by rw [hc.1]; exact hlt⟩]; rfl
    omega
theorem wpIn_region_invB {id : Nat} {a : Act} {w : World} (hm : P.follows .mixedOrders = true) (Inv : Array Bool → Act → World → Prop) (hback : ∀ (i : Nat) (o : Oper), ops[i]? = some o → ∀ e ∈ o.after, Region.binds .any e = true → e.on < i)
    (h0 : Inv (Array.replicate ops.size false) a w.drew)
    (hdone : ∀ listed a w, Inv listed a w → (∀ i, i < ops.size → listed.getD i true = true) → Q .normal a w)
    (hstep : ∀ listed a w (i : Nat) (o : Oper), Closed ops listed → Inv listed a w → ops[i]? = some o → listed.getD i true = false → (∀ e ∈ o.after, Region.binds .any e = true → listed.getD e.on false = true) → wpOpIn F n P ops Q i (fun a' w' => Inv (listed.setIfInBounds i true) a' w') a w) :
    (Code.region id ops true).wpIn F n P Q a w :=
  wpIn_region_any hm (wpAnyIn_invB Inv hback hdone hstep _ _ _ _ Closed.start (Nat.le_trans List.countP_le_length (by simp)) h0)
theorem wpIn_region_detX {γ : Type} (hF : ∀ f, F.fn f) (hcalm : calmB ops = true) {id : Nat} {tm0 : Array Value} {df : List Deferred} {w : World} (hm : P.follows .mixedOrders = true) (S : γ → Array Bool → World → Prop) (val : γ → Nat → Value) (x0 : γ) (hback : backBB ops = true) (hown : ownDst ops tm0.size = true)
    (h0 : S x0 (Array.replicate ops.size false) w.drew)
    (hdone : ∀ (x : γ) (L : Array Bool) (tm : Array Value) (w : World), (∀ i, i < ops.size → L.getD i true = true) → S x L w → tm.size = tm0.size → (∀ t, ((List.range ops.size).all fun j => !((ops[j]?).bind (·.dst) == some t)) = true → tm.getD t undef = tm0.getD t undef) → (∀ j o d, ops[j]? = some o → o.dst = some d → tm.getD d undef = val x j) → Q .normal ⟨tm, df⟩ w)
    (hstep : ∀ (x : γ) (L : Array Bool) (a : Act) (w : World) (i : Nat) (o : Oper), L.size = ops.size → ops[i]? = some o → L.getD i true = false → (∀ j, edgeB ops i j = true → L.getD j true = true) → (∀ j, edgeB ops j i = true → L.getD j true = false) → S x L w → (∀ t, ((List.range ops.size).all fun j => !((ops[j]?).bind (·.dst) == some t)) = true → a.tmps.getD t undef = tm0.getD t undef) →
      (∀ j oj d, edgeB ops i j = true → ops[j]? = some oj → oj.dst = some d → a.tmps.getD d undef = val x j) →
      (∀ j oj d, edgeB ops j i = true → ops[j]? = some oj → oj.dst = some d → a.tmps.getD d undef = tm0.getD d undef) → StepX P ops S val x L i o a w) :
    (Code.region id ops true).wpIn F n P Q ⟨tm0, df⟩ w := by
  refine wpIn_region_invB hm (fun L a w => ∃ x, S x L w ∧ a.defers = df ∧ a.tmps.size = tm0.size ∧ (∀ t, ((List.range ops.size).all fun j => !((ops[j]?).bind (·.dst) == some t)) = true → a.tmps.getD t undef = tm0.getD t undef) ∧ (∀ j o d, ops[j]? = some o → o.dst = some d → L.getD j true = true → a.tmps.getD d undef = val x j) ∧ (∀ j o d, ops[j]? = some o → o.dst = some d → L.getD j true = false → a.tmps.getD d undef = tm0.getD d undef)) (back_ofB hback) ?_ ?_ ?_
  · refine ⟨x0, h0, rfl, rfl, fun _ _ => rfl, fun j o d ho _ hl => ?_, fun _ _ _ _ _ _ => rfl⟩
    have hj : j < ops.size := (Array.getElem?_eq_some_iff.1 ho).1
    simp [Array.getD_eq_getD_getElem?, hj] at hl
  · intro L a w ⟨x, hS, hdf, hsz, hlow, hval, _⟩ hall
    obtain ⟨tm, df'⟩ := a
    simp only at hdf hsz
    subst hdf
    exact hdone x L tm w hall hS hsz hlow (fun j o d ho hd => hval j o d ho hd (hall j (Array.getElem?_eq_some_iff.1 ho).1))
  · intro L a w i o hC ⟨x, hS, hdf, hsz, hlow, hval, hold⟩ ho hl hd
    have hst := hstep x L a w i o hC.1 ho hl (fun j he => dep_of ho hd he) (fun j he => hC.no he hl) hS hlow (fun j oj d he hoj hdj => hval j oj d hoj hdj (dep_of ho hd he)) (fun j oj d he hoj hdj => hold j oj d hoj hdj (hC.no he hl))
    have next : ∀ x' w', (∀ j, L.getD j true = true → val x' j = val x j) → S x' (L.setIfInBounds i true) w' → S x' (L.setIfInBounds i true) w' ∧ (a.put o.dst (val x' i)).defers = df ∧ (a.put o.dst (val x' i)).tmps.size = tm0.size ∧ (∀ t, ((List.range ops.size).all fun j => !((ops[j]?).bind (·.dst) == some t)) = true → (a.put o.dst (val x' i)).tmps.getD t undef = tm0.getD t undef) ∧ (∀ j o' d, ops[j]? = some o' → o'.dst = some d → (L.setIfInBounds i true).getD j true = true → (a.put o.dst (val x' i)).tmps.getD d undef = val x' j) ∧ (∀ j o' d, ops[j]? = some o' → o'.dst = some d → (L.setIfInBounds i true).getD j true = false → (a.put o.dst (val x' i)).tmps.getD d undef = tm0.getD d undef) := by
      intro x' w' hag hS'
      cases hod : o.dst with
      | none =>
        refine ⟨hS', hdf, hsz, hlow, fun j o' d ho' hd' hl' => ?_, fun j o' d ho' hd' hl' => ?_⟩
        · have hne : i ≠ j := fun e => by subst e; rw [ho] at ho'; injection ho' with ho'; subst ho'; rw [hod] at hd'; cases hd'
          rw [getD_set_true, if_neg (fun h => hne h.1)] at hl'
          rw [hag j hl']; exact hval j o' d ho' hd' hl'
        · have hne : i ≠ j := fun e => by subst e; rw [ho] at ho'; injection ho' with ho'; subst ho'; rw [hod] at hd'; cases hd'
          rw [getD_set_true, if_neg (fun h => hne h.1)] at hl'
          exact hold j o' d ho' hd' hl'
      | some d0 =>
        have hput : ∀ t, (a.put (some d0) (val x' i)).tmps.getD t undef = if d0 = t ∧ t < a.tmps.size then val x' i else a.tmps.getD t undef := by
          intro t
          unfold Act.put
          simp only [Array.getD_eq_getD_getElem?, Array.getElem?_setIfInBounds]
          by_cases e : d0 = t
          · subst e
            by_cases h : d0 < a.tmps.size
            · simp [h]
            · simp [h]
          · simp [e]
        refine ⟨hS', hdf, by simp [Act.put, hsz], fun t ht => ?_, fun j o' d ho' hd' hl' => ?_, fun j o' d ho' hd' hl' => ?_⟩
        · rw [hput, if_neg (fun h => ?_)]
          · exact hlow t ht
          · have := List.all_eq_true.1 ht i (List.mem_range.2 (Array.getElem?_eq_some_iff.1 ho).1)
            rw [ho] at this
            simp [hod, h.1] at this
        · rw [hput]
          by_cases e : d0 = d
          · subst e
            have hij := ownDst_inj hown ho hod ho' hd'
            subst hij
            rw [if_pos ⟨rfl, by rw [hsz]; exact ownDst_lt hown ho hod⟩]
          · rw [if_neg (fun h => e h.1)]
            have hne : i ≠ j := fun e' => by subst e'; rw [ho] at ho'; injection ho' with ho'; subst ho'; rw [hod] at hd'; injection hd' with hd'; exact e hd'
            rw [getD_set_true, if_neg (fun h => hne h.1)] at hl'
            rw [hag j hl']; exact hval j o' d ho' hd' hl'
        · have hli : i ≠ j := fun e => by
            subst e
            have hC1 : i < L.size := by rw [hC.1]; exact (Array.getElem?_eq_some_iff.1 ho).1
            rw [getD_set_true, if_pos ⟨rfl, hC1⟩] at hl'; cases hl'
          rw [getD_set_true, if_neg (fun h => hli h.1)] at hl'
          have hdd : d0 ≠ d := fun e => by subst e; exact hli (ownDst_inj hown ho' hd' ho hod)
          rw [hput, if_neg (fun h => hdd h.1)]
          exact hold j o' d ho' hd' hl'
    rcases hst with ⟨hg, ⟨x', w', hag, hr, hS'⟩ | ⟨x', w', hag, hnd, hr, hS'⟩⟩ | ⟨hg, hv, hS'⟩
    · exact wpOpIn_valueX hF hcalm ho hg hr ⟨x', next x' w' hag hS'⟩
    · refine wpOpIn_skipX hF hcalm ho hg hr ⟨x', ?_⟩
      have h := next x' w' hag hS'
      rw [hnd] at h ⊢
      exact h
    · refine wpOpIn_offX hF ho hg ⟨x, ?_⟩
      have h := next x w (fun _ _ => rfl) hS'
      rw [hv] at h
      exact h
end
end Go.Proofs.YtjemjdlaoebffaaDoor

end
section
namespace Go.Proofs.YtjemjdlaoebffaaDoor
open Go.RowKit
theorem plain_bad {js : List J} {j : J} (hj : j ∈ js) (h : j.r ≠ 0) : plain0 js = false := by
  unfold plain0; rw [List.all_eq_false]; exact ⟨j, hj, by simpa using h⟩
theorem plain_step {js : List J} {k : Nat} (h : ∀ i (hi : i < js.length), i < k → js[i].r = 0) (hk : k < js.length) (ho : js[k].r = 0) : ∀ i (hi : i < js.length), i < k + 1 → js[i].r = 0 := by
  intro i hi hik
  by_cases e : i = k
  · subst e; exact ho
  · exact h i hi (by omega)
theorem plain_all {js : List J} (h : ∀ i (hi : i < js.length), i < js.length → js[i].r = 0) : plain0 js = true := by
  unfold plain0; rw [List.all_eq_true]
  intro j hj
  obtain ⟨i, hi, rfl⟩ := List.mem_iff_getElem.1 hj
  exact decide_eq_true (h i hi hi)
theorem l3Plain_any (A : Option Addr) (c : Nat) (js : List J) (w : World) (hr : Row w A (jc js)) (hn : js.length ≤ 100000000) :
    Calls Tryd.prog 147 #[.slice A js.length c] w fun e w' => e = .returned (.bool (plain0 js)) ∧ Below w.heap.size w w' := by
  go_enter Tryd.func147, Tryd.ntmps147
  go_wp2
  go_loopw [3] (fun i wr => ∃ k : Nat, k ≤ js.length ∧ i = .int .i64 k ∧ Hid (∀ i (hi : i < js.length), i < k → js[i].r = 0) ∧ Below w.heap.size w wr) (fun i _ => js.length - (intOf i).toNat)
  case atStart => exact ⟨0, Nat.zero_le _, rfl, fun _ _ h => absurd h (by omega), Below.refl _ _⟩
  case round =>
    obtain ⟨k, hk, rfl, hA, hb⟩ := hrel
    by_cases hlt : k < js.length
    · obtain ⟨a, hA', _, hc0, hc1, hc2, hc3⟩ := (hr.below hb).job hlt
      subst hA'
      have HB := Lib.hid hb
      have hi : (0 : Int) ≤ k := by omega
      have hi' : (k : Int) < js.length := by omega
      by_cases ho : js[k].r = 0
      · have HA := Lib.hid (plain_step hA.out hlt ho)
        have e0 : (js[k].r != 0) = false := by rw [ho]; rfl
        clear hr hb hA ho
        generalize js[k] = j at *
        go_wp2
        go_roundw
        case rel => exact ⟨k + 1, by omega, by go_num, HA.out, HB.out⟩
        case measure => simp [intOf]; omega
      · have HG := Lib.hid (plain_bad (List.getElem_mem hlt) ho)
        have e0 : (js[k].r != 0) = true := by simpa using ho
        clear hr hb hA ho
        generalize js[k] = j at *
        go_wp2
        go_ret
        exact ⟨by rw [HG.out]; rfl, HB.out⟩
    · obtain rfl : k = js.length := by omega
      have HG := Lib.hid (plain_all hA.out)
      clear hA
      go_wp2
      go_ret
      exact ⟨by rw [HG.out]; rfl, hb⟩
theorem posRel_any (j : J) (w : World) :
    Calls Tryd.prog 170 #[.agg #[.int .i64 j.t, .int .i64 j.w, .int .i64 j.r, .int .i64 j.d]] w fun e w' => e = .returned (.bool (decide (0 < j.r))) ∧ Below w.heap.size w w' := by
  go_enter Tryd.func170, Tryd.ntmps170
  go_wp2
  go_ret
  exact ⟨rfl, (Below.refl _ _).alloc (Nat.le_refl _) _⟩
def lowR (js : List J) : Bool := js.all fun j => decide (j.r ≤ 0)
theorem low_bad {js : List J} {j : J} (hj : j ∈ js) (h : ¬ j.r ≤ 0) : lowR js = false := by
  unfold lowR; rw [List.all_eq_false]; exact ⟨j, hj, by simpa using h⟩
theorem lowR_step {js : List J} {k : Nat} (h : ∀ i (hi : i < js.length), i < k → js[i].r ≤ 0) (hk : k < js.length) (ho : js[k].r ≤ 0) : ∀ i (hi : i < js.length), i < k + 1 → js[i].r ≤ 0 := by
  intro i hi hik
  by_cases e : i = k
  · subst e; exact ho
  · exact h i hi (by omega)
theorem low_all {js : List J} (h : ∀ i (hi : i < js.length), i < js.length → js[i].r ≤ 0) : lowR js = true := by
  unfold lowR; rw [List.all_eq_true]
  intro j hj
  obtain ⟨i, hi, rfl⟩ := List.mem_iff_getElem.1 hj
  exact decide_eq_true (h i hi hi)
theorem low_plain {js : List J} (hg : goodL js = true) : lowR js = plain0 js := by
  obtain ⟨_, hok⟩ := good_out hg
  unfold lowR plain0
  rw [Bool.eq_iff_iff, List.all_eq_true, List.all_eq_true]
  constructor
  · intro h j hj
    have h1 := okJ_out (hok j hj)
    have := of_decide_eq_true (h j hj)
    exact decide_eq_true (by omega)
  · intro h j hj
    have := of_decide_eq_true (h j hj)
    exact decide_eq_true (by omega)
def IdxP (js : List J) (w : World) (e : Ending) (w' : World) : Prop := ∃ r : Int, e = .returned (.int .i64 r) ∧ (0 ≤ r ↔ lowR js = false) ∧ Below w.heap.size w w'
theorem indexPos_any (A : Option Addr) (c : Nat) (js : List J) (w : World) (hr : Row w A (jc js)) (hn : js.length ≤ 100000000) :
    Calls Tryd.prog 200 #[.slice A js.length c, .func (.func 170) #[] #[]] w (IdxP js w) := by
  go_enter Tryd.func200, Tryd.ntmps200
  go_wp2
  go_loopw [8] (fun i wr => ∃ k : Nat, k ≤ js.length ∧ i = .int .i64 k ∧ Hid (∀ i (hi : i < js.length), i < k → js[i].r ≤ 0) ∧ Below w.heap.size w wr) (fun i _ => js.length - (intOf i).toNat)
  case atStart => exact ⟨0, Nat.zero_le _, rfl, fun _ _ h => absurd h (by omega), Below.refl _ _⟩
  case round =>
    obtain ⟨k, hk, rfl, hA, hb⟩ := hrel
    by_cases hlt : k < js.length
    · obtain ⟨a, hA', _, hc0, hc1, hc2, hc3⟩ := (hr.below hb).job hlt
      subst hA'
      have HB := Lib.hid hb
      have hi : (0 : Int) ≤ k := by omega
      have hi' : (k : Int) < js.length := by omega
      by_cases ho : js[k].r ≤ 0
      · have HA := Lib.hid (lowR_step hA.out hlt ho)
        have ho' : decide (0 < js[k].r) = false := decide_eq_false (by omega)
        clear hr hb hA
        generalize js[k] = j at *
        go_wp2_with fail
        refine (posRel_any j _).mono ?_
        rintro e w1 ⟨rfl, hb1⟩
        rw [ho']
        go_wp2
        go_roundw
        case rel => exact ⟨k + 1, by omega, by go_num, HA.out, HB.out.trans (hb1.mono HB.out.size)⟩
        case measure => simp [intOf]; omega
      · have HG := Lib.hid (low_bad (List.getElem_mem hlt) ho)
        have ho' : decide (0 < js[k].r) = true := decide_eq_true (by omega)
        clear hr hb hA
        generalize js[k] = j at *
        go_wp2_with fail
        refine (posRel_any j _).mono ?_
        rintro e w1 ⟨rfl, hb1⟩
        rw [ho']
        go_wp2
        go_ret
        exact ⟨k, rfl, ⟨fun _ => HG.out, fun _ => by omega⟩, HB.out.trans (hb1.mono HB.out.size)⟩
    · obtain rfl : k = js.length := by omega
      have HG := Lib.hid (low_all hA.out)
      clear hA
      go_wp2
      go_ret
      exact ⟨-1, rfl, ⟨fun h => by omega, fun h => by rw [HG.out] at h; cases h⟩, hb⟩
theorem containsPos_any (A : Option Addr) (c : Nat) (js : List J) (w : World) (hr : Row w A (jc js)) (hn : js.length ≤ 100000000) :
    Calls Tryd.prog 169 #[.slice A js.length c, .func (.func 170) #[] #[]] w fun e w' => e = .returned (.bool (!lowR js)) ∧ Below w.heap.size w w' := by
  go_enter Tryd.func169, Tryd.ntmps169
  go_wp2_with fail
  refine (indexPos_any A c js _ hr hn).mono ?_
  rintro e w1 ⟨r, rfl, hr1, hb1⟩
  by_cases h0 : 0 ≤ r
  · have H := Lib.hid (hr1.1 h0)
    clear hr1
    go_wp2
    go_ret
    exact ⟨by rw [H.out]; rfl, hb1⟩
  · have H : Hid (lowR js = true) := by
      show _ = _
      cases h : lowR js
      · exact absurd (hr1.2 h) h0
      · rfl
    clear hr1
    go_wp2
    go_ret
    exact ⟨by rw [H.out]; exact congrArg (fun b => Ending.returned (Value.bool b)) (decide_eq_false (by omega)), hb1⟩
theorem impl_IsPlain (A : Option Addr) (c : Nat) (js : List J) (w : World) (hr : Row w A (jc js)) (hn : js.length ≤ 100000000) :
    Calls Tryd.prog 122 #[.slice A js.length c] w fun e w' => e = .returned (.bool (plainL js)) ∧ Below w.heap.size w w' := by
  have HP : Hid (plainL js = (goodL js && plain0 js)) := rfl
  cases hg : goodL js
  · go_enter Tryd.func122, Tryd.ntmps122
    go_wp2_with fail
    refine (IsJobs_any A c js _ hr hn).mono ?_
    rintro e w1 ⟨rfl, hb1⟩
    rw [hg]
    go_wp2
    go_ret
    exact ⟨by rw [HP.out, hg]; rfl, hb1⟩
  · have HL := Lib.hid (low_plain hg)
    go_enter Tryd.func122, Tryd.ntmps122
    go_wp2_with fail
    refine (IsJobs_any A c js _ hr hn).mono ?_
    rintro e w1 ⟨rfl, hb1⟩
    rw [hg]
    go_wp2_with fail
    refine (containsPos_any A c js _ (hr.below hb1) hn).mono ?_
    rintro e w2 ⟨rfl, hb2⟩
    go_wp2
    go_ret
    exact ⟨by rw [HP.out, hg, ← HL.out]; simp, hb1.trans (hb2.mono hb1.size)⟩
end Go.Proofs.YtjemjdlaoebffaaDoor

end
section
namespace Go.Proofs.YtjemjdlaoebffaaDoor
open Go.RowKit
section
variable (A : Option Addr) (c : Nat) (js : List J) (w : World) (hr : Row w A (jc js)) (hn : js.length ≤ 100000000)
include hr hn
theorem l4Free_any : Calls Tryd.prog 118 #[.slice A js.length c] w fun e w' => e = .returned (.bool (lowR js)) ∧ Below w.heap.size w w' := by
  go_enter Tryd.func118, Tryd.ntmps118
  go_wp2
  go_loopw [3] (fun i wr => ∃ k : Nat, k ≤ js.length ∧ i = .int .i64 k ∧ Hid (∀ i (hi : i < js.length), i < k → js[i].r ≤ 0) ∧ Below w.heap.size w wr) (fun i _ => js.length - (intOf i).toNat)
  case atStart => exact ⟨0, Nat.zero_le _, rfl, fun _ _ h => absurd h (by omega), Below.refl _ _⟩
  case round =>
    obtain ⟨k, hk, rfl, hA, hb⟩ := hrel
    by_cases hlt : k < js.length
    · obtain ⟨a, hA', _, hc0, hc1, hc2, hc3⟩ := (hr.below hb).job hlt
      subst hA'
      have HB := Lib.hid hb
      have hi : (0 : Int) ≤ k := by omega
      have hi' : (k : Int) < js.length := by omega
      by_cases ho : js[k].r ≤ 0
      · have HA := Lib.hid (lowR_step hA.out hlt ho)
        have ho' : ¬ (0 < js[k].r) := by omega
        clear hr hb hA
        generalize js[k] = j at *
        go_wp2
        go_roundw
        case rel => exact ⟨k + 1, by omega, by go_num, HA.out, HB.out⟩
        case measure => simp [intOf]; omega
      · have HG := Lib.hid (low_bad (List.getElem_mem hlt) ho)
        have ho' : 0 < js[k].r := by omega
        clear hr hb hA
        generalize js[k] = j at *
        go_wp2
        go_ret
        exact ⟨by rw [HG.out]; rfl, HB.out⟩
    · obtain rfl : k = js.length := by omega
      have HG := Lib.hid (low_all hA.out)
      clear hA
      go_wp2
      go_ret
      exact ⟨by rw [HG.out]; rfl, hb⟩
theorem l6Good_any : Calls Tryd.prog 69 #[.slice A js.length c] w fun e w' => e = .returned (.bool (plainL js)) ∧ Below w.heap.size w w' := by
  have HP : Hid (plainL js = (goodL js && plain0 js)) := rfl
  cases hg : goodL js
  · go_enter Tryd.func69, Tryd.ntmps69
    go_wp2_with fail
    refine (l2Good_any A c js _ hr hn).mono ?_
    rintro e w1 ⟨rfl, hb1⟩
    rw [hg]
    go_wp2
    go_ret
    exact ⟨by rw [HP.out, hg]; rfl, hb1⟩
  · have HL := Lib.hid (low_plain hg)
    go_enter Tryd.func69, Tryd.ntmps69
    go_wp2_with fail
    refine (l2Good_any A c js _ hr hn).mono ?_
    rintro e w1 ⟨rfl, hb1⟩
    rw [hg]
    go_wp2_with fail
    refine (l4Free_any A c js _ (hr.below hb1) hn).mono ?_
    rintro e w2 ⟨rfl, hb2⟩
    go_wp2
    go_ret
    exact ⟨by rw [HP.out, hg, ← HL.out]; rfl, hb1.trans (hb2.mono hb1.size)⟩
/-- A list that is not plain is handed on as none. -/
def PlnIs (A : Option Addr) (c : Nat) (js : List J) (w : World) (e : Ending) (w' : World) : Prop :=
  Below w.heap.size w w' ∧ ((plainL js = true ∧ e = .returned (.tuple #[.slice A js.length c, .bool true])) ∨ (plainL js = false ∧ e = .returned (.tuple #[.slice none 0 0, .bool false])))
theorem plainListOf_any : Calls Tryd.prog 72 #[.slice A js.length c] w (PlnIs A c js w) := by
  cases hp : plainL js
  · go_enter Tryd.func72, Tryd.ntmps72
    go_wp2_with fail
    refine (impl_IsPlain A c js _ hr hn).mono ?_
    rintro e w1 ⟨rfl, hb1⟩
    rw [hp]
    go_wp2
    go_ret2
    exact ⟨hb1, .inr ⟨hp, rfl⟩⟩
  · go_enter Tryd.func72, Tryd.ntmps72
    go_wp2_with fail
    refine (impl_IsPlain A c js _ hr hn).mono ?_
    rintro e w1 ⟨rfl, hb1⟩
    rw [hp]
    go_wp2
    go_ret2
    exact ⟨hb1, .inl ⟨hp, rfl⟩⟩
end
end Go.Proofs.YtjemjdlaoebffaaDoor

end
section
namespace Go.Proofs.YtjemjdlaoebffaaDoor
open Go.RowKit Go.Shelf
attribute [local go_sem] Oper.semAt_some
def sumT (js : List J) (l : List Nat) : Int := (l.map fun k => (js.getD k j0).t).sum
theorem sumT_snoc (js : List J) (l : List Nat) (k : Nat) : sumT js (l ++ [k]) = sumT js l + (js.getD k j0).t := by unfold sumT; simp
theorem sumT_bd {js : List J} (hok : ∀ j ∈ js, okJ j = true) : ∀ l : List Nat, (∀ k ∈ l, k < js.length) → 0 ≤ sumT js l ∧ sumT js l ≤ 50 * (l.length : Int)
  | [], _ => by simp [sumT]
  | k :: l, h => by
    have h1 := sumT_bd hok l (fun x hx => h x (List.mem_cons_of_mem _ hx))
    have hk := h k List.mem_cons_self
    have h2 := okJ_out (hok _ (List.getElem_mem hk))
    have e : sumT js (k :: l) = js[k].t + sumT js l := by unfold sumT; simp [List.getD, hk]
    rw [e, List.length_cons]
    omega
def timeB (js : List J) (s : Nat) : Int := sumT js (memB s)
section
variable (A : Option Addr) (c s : Nat) (js : List J) (w : World) (hs : s < 256) (hr : Row w A (jc js)) (hok : ∀ j ∈ js, okJ j = true) (hlt : ∀ k, s.testBit k = true → k < js.length) (hT : TzTab w)
include hs hr hok hlt hT
set_option maxRecDepth 100000 in
set_option maxHeartbeats 4000000 in
theorem timeOf_any : Calls Tryd.prog 171 #[.slice A js.length c, .int .u64 (s : Int)] w fun e w' => e = .returned (.int .i64 (timeB js s)) ∧ Below w.heap.size w w' := by
  have b0 : Boxed (((w.alloc (.cells #[.slice A js.length c] 67)).alloc (.cells #[.int .i64 0] 3)).alloc (.cells #[.int .u64 (s : Int)] 69)) w.heap.size 67 (.slice A js.length c) := ((Boxed.new w 67 (.slice A js.length c)).alloc _).alloc _
  have b1 : Boxed (((w.alloc (.cells #[.slice A js.length c] 67)).alloc (.cells #[.int .i64 0] 3)).alloc (.cells #[.int .u64 (s : Int)] 69)) (w.heap.size + 1) 3 (.int .i64 0) := by
    have h := (Boxed.new (w.alloc (.cells #[.slice A js.length c] 67)) 3 (.int .i64 0)).alloc (.cells #[.int .u64 (s : Int)] 69)
    rwa [World.size_alloc] at h
  have b2 : Boxed (((w.alloc (.cells #[.slice A js.length c] 67)).alloc (.cells #[.int .i64 0] 3)).alloc (.cells #[.int .u64 (s : Int)] 69)) (w.heap.size + 1 + 1) 69 (.int .u64 (s : Int)) := by
    have h := Boxed.new ((w.alloc (.cells #[.slice A js.length c] 67)).alloc (.cells #[.int .i64 0] 3)) 69 (.int .u64 (s : Int))
    rwa [World.size_alloc, World.size_alloc] at h
  have hb3 : Below w.heap.size w (((w.alloc (.cells #[.slice A js.length c] 67)).alloc (.cells #[.int .i64 0] 3)).alloc (.cells #[.int .u64 (s : Int)] 69)) := (((Below.refl _ w).alloc (Nat.le_refl _) _).alloc (by simp) _).alloc (by simp; omega) _
  have hz3 : (((w.alloc (.cells #[.slice A js.length c] 67)).alloc (.cells #[.int .i64 0] 3)).alloc (.cells #[.int .u64 (s : Int)] 69)).heap.size = w.heap.size + 1 + 1 + 1 := by simp
  have H3 := Lib.hid (And.intro b0 (And.intro b1 (And.intro b2 hb3)))
  have HR := Lib.hid hr
  have HT := Lib.hid hT
  clear b0 b1 b2 hb3 hr hT
  refine (callsIn_wide (n := 6)).1 ?_
  refine callsIn_of_wp_marks Tryd.func171 rfl trivial ?_ rfl
  simp only [Tryd.ntmps171, List.size_toArray, List.length_cons, List.length_nil, Nat.reduceAdd, Nat.reduceSub, Array.replicate_succ, Array.replicate_zero, List.push_toArray, List.append_toArray, List.nil_append, List.cons_append]
  gi_wp2_with (refine ⟨trivial, ?_⟩; gi_at_call 89; refine (members_in 5 _ _).mono ?_; rintro e w' ⟨rfl, rfl⟩)
  generalize ((w.alloc (.cells #[.slice A js.length c] 67)).alloc (.cells #[.int .i64 0] 3)).alloc (.cells #[.int .u64 (s : Int)] 69) = w3 at *
  -- RANGE
  obtain ⟨b0, b1, b2, hb3⟩ := H3.out
  refine wpIn_rangeFunc_ownG (F := Fence.wide) rfl (by omega) (gf := 145) (lb := #[.pointer (some ⟨w.heap.size + 1 + 1, 0, none⟩)]) rfl trivial (enters_of Tryd.func145 (by kernel_rfl) rfl)
    (members_stops 5 (by omega) (w.heap.size + 1 + 1) s hs w3 (by omega) b2 (HT.out.below hb3))
    (fun h k t => k (h t)) (fun W l' o o' hl ho hc _ => KeepsTz.put ho hc) (Below.refl _ _) (fun _ => rfl)
    (fun (pre : List (Mb s)) W => (Boxed W w.heap.size 67 (.slice A js.length c) ∧ Boxed W (w.heap.size + 1) 3 (.int .i64 (sumT js (vals pre)))) ∧ Below w.heap.size w W)
    (fun _ _ _ => False)
    (OwnFrom.and (OwnFrom.and (Own.from (boxed_own _ _ _) _) (Own.from (boxed_own _ _ _) _)) (ownFrom_below (Nat.le_refl _) (by omega)))
    (fun _ _ _ _ _ h _ _ => h)
    ⟨⟨b0, b1⟩, hb3⟩
    (fun x => { tmps := #[.slice A js.length c, .int .u64 (s : Int), .pointer (some ⟨w.heap.size, 0, none⟩), undef, .int .i64 0, .pointer (some ⟨w.heap.size + 1, 0, none⟩), .int .i64 (x.1 : Int), .int .u64 (s : Int), .func (.func 145) #[] #[.pointer (some ⟨w.heap.size + 1 + 1, 0, none⟩)], .int .i64 (x.1 : Int), undef, undef, undef, undef, undef, undef, undef, undef], defers := [] }) ?assign ?body ?done ?stop
  case assign =>
    intro l' x W K hK
    unfold encM
    gi_wp2
    exact hK
  case body =>
    rintro l' pre ⟨x, hx⟩ W ⟨⟨y0, y1⟩, hb⟩ hl
    have hxl := hlt x hx
    have hmo : Tryd.prog.follows .mixedOrders = true := by kernel_rfl
    obtain ⟨ad, rfl, hadb, cj0, cj1, cj2, cj3⟩ := (HR.out.below hb).job hxl
    have HSN : Hid (sumT js (vals (pre ++ [(⟨x, hx⟩ : Mb s)])) = sumT js (vals pre) + js[x].t) := by show _ = _; rw [vals_snoc, sumT_snoc, getD_at js j0 hxl]
    have hpl : (vals pre).length ≤ 8 := by have h1 := memB_len s; rw [vals_len]; omega
    have hbd := sumT_bd hok (vals pre) (fun k hk => by obtain ⟨z, _, rfl⟩ := List.mem_map.1 hk; exact hlt _ z.2)
    have hjt := okJ_out (hok _ (List.getElem_mem hxl))
    obtain ⟨W1, hW1⟩ : ∃ W1, W1 = W.drew := ⟨_, rfl⟩
    have q0 : W1.cell? ⟨w.heap.size, 0, none⟩ = some (.slice (some ad) js.length c) := by rw [hW1]; exact y0.cell
    have q1 : W1.cell? ⟨w.heap.size + 1, 0, none⟩ = some (.int .i64 (sumT js (vals pre))) := by rw [hW1]; exact y1.cell
    have f1 : W1.frozen? ⟨w.heap.size + 1, 0, none⟩ = false := by rw [hW1]; exact y1.frozen
    have qj : W1.cell? (ad.add (x * 4)) = some (.int .i64 js[x].t) := by rw [hW1]; exact cj0
    have hx0 : (0 : Int) ≤ x := by omega
    have hx1 : (x : Int) < js.length := by omega
    generalize js[x] = j at *
    generalize sumT js (vals pre) = sm at *
    have hwr := IntWalk.i64_in (sm + j.t) (by omega)
    dsimp only
    gi_wp2
    refine wpIn_region_detX (fun _ => trivial) (by kernel_rfl) hmo (fun (_ : Unit) (L : Array Bool) w' => (L.getD 7 true = false → w' = W1) ∧ (L.getD 7 true = true → w' = W1.setCell ⟨w.heap.size + 1, 0, none⟩ (.int .i64 (sm + j.t)))) (fun _ k => (#[.int .i64 sm, .slice (some ad) js.length c, .int .i64 (x : Int), .pointer (some (ad.add (x * 4))), .pointer (some (ad.add (x * 4))), .int .i64 j.t, .int .i64 (sm + j.t), undef] : Array Value).getD k undef) () (by kernel_rfl) (by kernel_rfl) ⟨fun _ => hW1.symm, fun h => by cases h⟩ ?_ ?_
    · intro _ L tm w' hall hS hsz hlow hval
      obtain rfl := hS.2 (hall 7 (by decide))
      have ht : tm = #[.slice (some ad) js.length c, .int .u64 (s : Int), .pointer (some ⟨w.heap.size, 0, none⟩), undef, .int .i64 0, .pointer (some ⟨w.heap.size + 1, 0, none⟩), .int .i64 (x : Int), .int .u64 (s : Int), .func (.func 145) #[] #[.pointer (some ⟨w.heap.size + 1 + 1, 0, none⟩)], .int .i64 (x : Int), .int .i64 sm, .slice (some ad) js.length c, .int .i64 (x : Int), .pointer (some (ad.add (x * 4))), .pointer (some (ad.add (x * 4))), .int .i64 j.t, .int .i64 (sm + j.t), undef] := by
        refine arr_of _ _ hsz fun t ht => ?_
        have ht' : t < 18 := ht
        rcases (by omega : t = 0 ∨ t = 1 ∨ t = 2 ∨ t = 3 ∨ t = 4 ∨ t = 5 ∨ t = 6 ∨ t = 7 ∨ t = 8 ∨ t = 9 ∨ t = 10 ∨ t = 11 ∨ t = 12 ∨ t = 13 ∨ t = 14 ∨ t = 15 ∨ t = 16 ∨ t = 17) with rfl | rfl | rfl | rfl | rfl | rfl | rfl | rfl | rfl | rfl | rfl | rfl | rfl | rfl | rfl | rfl | rfl | rfl
        · exact hlow 0 (by kernel_rfl)
        · exact hlow 1 (by kernel_rfl)
        · exact hlow 2 (by kernel_rfl)
        · exact hlow 3 (by kernel_rfl)
        · exact hlow 4 (by kernel_rfl)
        · exact hlow 5 (by kernel_rfl)
        · exact hlow 6 (by kernel_rfl)
        · exact hlow 7 (by kernel_rfl)
        · exact hlow 8 (by kernel_rfl)
        · exact hlow 9 (by kernel_rfl)
        · exact hval 0 _ 10 rfl rfl
        · exact hval 1 _ 11 rfl rfl
        · exact hval 2 _ 12 rfl rfl
        · exact hval 3 _ 13 rfl rfl
        · exact hval 4 _ 14 rfl rfl
        · exact hval 5 _ 15 rfl rfl
        · exact hval 6 _ 16 rfl rfl
        · exact hlow 17 (by kernel_rfl)
      subst ht
      clear hlow hval hsz hall hS
      have HW1 := Lib.hid hW1
      clear hW1
      gi_wp2
      have hbw : Below w.heap.size w (W1.setCell ⟨w.heap.size + 1, 0, none⟩ (.int .i64 (sm + j.t))) := (show Below w.heap.size w W1 by rw [HW1.out]; exact hb.drew).setCell (p := ⟨w.heap.size + 1, 0, none⟩) (by simp) _
      have z0 : Boxed W1 w.heap.size 67 (.slice (some ad) js.length c) := by rw [HW1.out]; exact y0
      have z1 : Boxed W1 (w.heap.size + 1) 3 (.int .i64 sm) := by rw [HW1.out]; exact y1
      exact ⟨((KeepsOthers.drew W).trans (by rw [← HW1.out]; exact KeepsOthers.setCell _ _ _)).from _, fun _ => HT.out.below hbw, ⟨z0.other (by omega) _, by rw [HSN.out]; exact z1.set _⟩, hbw⟩
    · intro _ L a' w' i op hLs ho hLi hLd hLn hS hlow hdep _
      have hi : i < 8 := (Array.getElem?_eq_some_iff.1 ho).1
      rcases (by omega : i = 0 ∨ i = 1 ∨ i = 2 ∨ i = 3 ∨ i = 4 ∨ i = 5 ∨ i = 6 ∨ i = 7) with rfl | rfl | rfl | rfl | rfl | rfl | rfl | rfl
      · obtain rfl := Option.some.inj ho
        have e5 : a'.tmps[5]?.getD undef = .pointer (some ⟨w.heap.size + 1, 0, none⟩) := (Array.getD_eq_getD_getElem? ..).symm.trans (hlow 5 (by kernel_rfl))
        have hK : ((L.setIfInBounds 0 true).getD 7 true = false → w' = W1) ∧ ((L.setIfInBounds 0 true).getD 7 true = true → w' = W1.setCell ⟨w.heap.size + 1, 0, none⟩ (.int .i64 (sm + j.t))) := by rw [getD_set_true, if_neg (fun h => by cases h.1)]; exact hS
        obtain rfl : W1 = w' := (hS.1 (hLn 7 (by kernel_rfl))).symm
        exact .inl ⟨wanted_free rfl, .inl ⟨(), _, fun _ _ => rfl, by simp [execOp, Act.eval, e5, q1, go_sem], hK⟩⟩
      · obtain rfl := Option.some.inj ho
        have e2 : a'.tmps[2]?.getD undef = .pointer (some ⟨w.heap.size, 0, none⟩) := (Array.getD_eq_getD_getElem? ..).symm.trans (hlow 2 (by kernel_rfl))
        have hK : ((L.setIfInBounds 1 true).getD 7 true = false → w' = W1) ∧ ((L.setIfInBounds 1 true).getD 7 true = true → w' = W1.setCell ⟨w.heap.size + 1, 0, none⟩ (.int .i64 (sm + j.t))) := by rw [getD_set_true, if_neg (fun h => by cases h.1)]; exact hS
        obtain rfl : W1 = w' := (hS.1 (hLn 7 (by kernel_rfl))).symm
        exact .inl ⟨wanted_free rfl, .inl ⟨(), _, fun _ _ => rfl, by simp [execOp, Act.eval, e2, q0, go_sem], hK⟩⟩
      · obtain rfl := Option.some.inj ho
        have e6 : a'.tmps[6]?.getD undef = .int .i64 (x : Int) := (Array.getD_eq_getD_getElem? ..).symm.trans (hlow 6 (by kernel_rfl))
        have hK : ((L.setIfInBounds 2 true).getD 7 true = false → w' = W1) ∧ ((L.setIfInBounds 2 true).getD 7 true = true → w' = W1.setCell ⟨w.heap.size + 1, 0, none⟩ (.int .i64 (sm + j.t))) := by rw [getD_set_true, if_neg (fun h => by cases h.1)]; exact hS
        exact .inl ⟨wanted_free rfl, .inl ⟨(), _, fun _ _ => rfl, by simp [execOp, Act.eval, e6, go_sem], hK⟩⟩
      · obtain rfl := Option.some.inj ho
        have e11 : a'.tmps[11]?.getD undef = .slice (some ad) js.length c := (Array.getD_eq_getD_getElem? ..).symm.trans (hdep 1 _ 11 (by kernel_rfl) rfl rfl)
        have e12 : a'.tmps[12]?.getD undef = .int .i64 (x : Int) := (Array.getD_eq_getD_getElem? ..).symm.trans (hdep 2 _ 12 (by kernel_rfl) rfl rfl)
        have hK : ((L.setIfInBounds 3 true).getD 7 true = false → w' = W1) ∧ ((L.setIfInBounds 3 true).getD 7 true = true → w' = W1.setCell ⟨w.heap.size + 1, 0, none⟩ (.int .i64 (sm + j.t))) := by rw [getD_set_true, if_neg (fun h => by cases h.1)]; exact hS
        exact .inl ⟨wanted_free rfl, .inl ⟨(), _, fun _ _ => rfl, by simp [execOp, Act.eval, e11, e12, hx0, hx1, go_sem], hK⟩⟩
      · obtain rfl := Option.some.inj ho
        have e13 : a'.tmps[13]?.getD undef = .pointer (some (ad.add (x * 4))) := (Array.getD_eq_getD_getElem? ..).symm.trans (hdep 3 _ 13 (by kernel_rfl) rfl rfl)
        have hK : ((L.setIfInBounds 4 true).getD 7 true = false → w' = W1) ∧ ((L.setIfInBounds 4 true).getD 7 true = true → w' = W1.setCell ⟨w.heap.size + 1, 0, none⟩ (.int .i64 (sm + j.t))) := by rw [getD_set_true, if_neg (fun h => by cases h.1)]; exact hS
        exact .inl ⟨wanted_free rfl, .inl ⟨(), _, fun _ _ => rfl, by simp [execOp, Act.eval, e13, go_sem], hK⟩⟩
      · obtain rfl := Option.some.inj ho
        have e14 : a'.tmps[14]?.getD undef = .pointer (some (ad.add (x * 4))) := (Array.getD_eq_getD_getElem? ..).symm.trans (hdep 4 _ 14 (by kernel_rfl) rfl rfl)
        have hK : ((L.setIfInBounds 5 true).getD 7 true = false → w' = W1) ∧ ((L.setIfInBounds 5 true).getD 7 true = true → w' = W1.setCell ⟨w.heap.size + 1, 0, none⟩ (.int .i64 (sm + j.t))) := by rw [getD_set_true, if_neg (fun h => by cases h.1)]; exact hS
        obtain rfl : W1 = w' := (hS.1 (hLn 7 (by kernel_rfl))).symm
        exact .inl ⟨wanted_free rfl, .inl ⟨(), _, fun _ _ => rfl, by simp [execOp, Act.eval, e14, qj, go_sem], hK⟩⟩
      · obtain rfl := Option.some.inj ho
        have e10 : a'.tmps[10]?.getD undef = .int .i64 sm := (Array.getD_eq_getD_getElem? ..).symm.trans (hdep 0 _ 10 (by kernel_rfl) rfl rfl)
        have e15 : a'.tmps[15]?.getD undef = .int .i64 j.t := (Array.getD_eq_getD_getElem? ..).symm.trans (hdep 5 _ 15 (by kernel_rfl) rfl rfl)
        have hK : ((L.setIfInBounds 6 true).getD 7 true = false → w' = W1) ∧ ((L.setIfInBounds 6 true).getD 7 true = true → w' = W1.setCell ⟨w.heap.size + 1, 0, none⟩ (.int .i64 (sm + j.t))) := by rw [getD_set_true, if_neg (fun h => by cases h.1)]; exact hS
        exact .inl ⟨wanted_free rfl, .inl ⟨(), _, fun _ _ => rfl, by simp [execOp, Act.eval, e10, e15, hwr, go_sem], hK⟩⟩
      · obtain rfl := Option.some.inj ho
        have e5 : a'.tmps[5]?.getD undef = .pointer (some ⟨w.heap.size + 1, 0, none⟩) := (Array.getD_eq_getD_getElem? ..).symm.trans (hlow 5 (by kernel_rfl))
        have e16 : a'.tmps[16]?.getD undef = .int .i64 (sm + j.t) := (Array.getD_eq_getD_getElem? ..).symm.trans (hdep 6 _ 16 (by kernel_rfl) rfl rfl)
        obtain rfl : W1 = w' := (hS.1 hLi).symm
        have hK : ((L.setIfInBounds 7 true).getD 7 true = false → W1.setCell ⟨w.heap.size + 1, 0, none⟩ (.int .i64 (sm + j.t)) = W1) ∧ ((L.setIfInBounds 7 true).getD 7 true = true → W1.setCell ⟨w.heap.size + 1, 0, none⟩ (.int .i64 (sm + j.t)) = W1.setCell ⟨w.heap.size + 1, 0, none⟩ (.int .i64 (sm + j.t))) := ⟨fun h => (by rw [getD_set_true, if_pos ⟨rfl, by rw [hLs]; decide⟩] at h; cases h), fun _ => rfl⟩
        exact .inl ⟨wanted_free rfl, .inr ⟨(), W1.setCell ⟨w.heap.size + 1, 0, none⟩ (.int .i64 (sm + j.t)), fun _ _ => rfl, rfl, by simp [execOp, Act.eval, e5, e16, q1, f1, go_sem], hK⟩⟩
  case done =>
    rintro D ys W hD hys ⟨⟨y0, y1⟩, hb⟩ hK
    have hc := y1.cell
    gi_wp2
    refine ⟨by simp, .inl ⟨_, _, rfl, run_takeDeferred hK, ?_⟩⟩
    exact ⟨_, results_tmp rfl _ _ _, rfl, hb.trans (belowK_b (w := w3) (by omega) W D _ _ (by omega) hK rfl rfl)⟩
  case stop =>
    rintro D cd pre W _ _ h _
    exact h.elim
end
theorem memB_all : ∀ n, n < 9 → memB (2 ^ n - 1) = List.range n := by decide +kernel
theorem pow_lt : ∀ n, n < 9 → 2 ^ n - 1 < 256 := by decide
theorem all_bit {n : Nat} (hn : n < 9) {k : Nat} (h : (2 ^ n - 1).testBit k = true) : k < n := by
  have h1 := (memB_mem (pow_lt n hn)).2 h
  rw [memB_all n hn] at h1
  exact List.mem_range.1 h1
def totL (js : List J) : Int := sumT js (List.range js.length)
def totalR (js : List J) : Int × Bool := if plainL js then (totL js, true) else (0, false)
def totTo (js : List J) (k : Nat) : Int := sumT js (List.range k)
theorem totTo_succ (js : List J) (k : Nat) (hk : k < js.length) : totTo js (k + 1) = totTo js k + js[k].t := by
  unfold totTo; rw [List.range_succ, sumT_snoc, getD_at js j0 hk]
section
variable (A : Option Addr) (c : Nat) (js : List J) (w : World) (hr : Row w A (jc js))
include hr
end
end Go.Proofs.YtjemjdlaoebffaaDoor

end
section
namespace Go.Proofs.YtjemjdlaoebffaaDoor
open Go.RowKit
section
variable {P : Program} (w : World)
/-- One more cell, or a few: the slice stays where it is, or lies in a new block. -/
theorem append_at (base : Nat) (t ty e : TypeId) (i : TypeInfo) (z : Value) (size bytes : Nat) (ht : P.underlying t = some (.slice e)) (hi : P.info? e = some i) (hz : i.zero = some z)
    (hsize : i.size = size) (hby : i.bytes = bytes) (hzs : z.cells.size = size) (hsz : 0 < size)
    (v : Value) (n : Nat) (xs : List Value) (hown : w.ownsRow base e size v n xs)
    (a : Addr) (m c : Nat) (news : List Value) (hl : news.length = m * size) (hnews : ∀ j u, news[j]? = some u → w.cell? (a.add j) = some u) (h1 : ∀ u ∈ news, u.oneCell' = true) (hm0 : 0 < m)
    (h63 : n + m ≤ maxLen) (hbytes : (n + m) * bytes ≤ 140737488355328) (hbase : base ≤ w.heap.size) :
    ∃ v' w', (Builtin.append_ #[t, t] ty #[v, .slice (some a) m c]).run P w = .ok v' w' ∧ w'.ownsRow base e size v' (n + m) (xs ++ news) ∧ w.grownBy w' v.ownBlock ∧ (v'.ownBlock = v.ownBlock ∨ v'.ownBlock = some w.heap.size) := by
  obtain ⟨v', w', hr, h2, h3, _⟩ := run_append_own (P := P) w base t ty e i z size bytes ht hi hz hsize hby hzs hsz v n xs hown a m c news hl hnews h1 h63 hbytes hbase
  refine ⟨v', w', hr, h2, h3, ?_⟩
  subst hsize hby
  have hml : n + m ≤ 9223372036854775807 := by simp only [maxLen] at h63; omega
  rcases id hown.2 with ⟨rfl, rfl⟩ | ⟨g, cap, cur, rfl, hbg, hg, hnc, hcm, hcs, htake⟩
  · have hr' := run_append_nil (P := P) w t ty e i z ht hi hz a m c news hl hnews hm0 (by omega) (by have hb := hbytes; simp only [Nat.zero_add] at hb; omega)
    rw [hr] at hr'
    injection hr' with hv
    subst hv
    exact .inr rfl
  · by_cases hroom : n + m ≤ cap
    · have hfit : n * i.size + news.length ≤ cur.size := by rw [hl, hcs, ← Nat.add_mul]; exact Nat.mul_le_mul_right _ hroom
      have hr' := run_append_room (P := P) w t ty e i ht hi g n cap cur hg a m c news hl hnews h1 hroom hfit
      rw [hr] at hr'
      injection hr' with hv
      subst hv
      exact .inl rfl
    · have hr' := run_append_grow (P := P) w t ty e i z ht hi hz ⟨g, 0, none⟩ n cap xs hown.1 (hown.cells (g := g) rfl) a m c news hl hnews (by omega) (by omega) (growslice_fits (by omega) hbytes)
      rw [hr] at hr'
      injection hr' with hv
      subst hv
      exact .inr rfl
theorem wpList_append_at {ops : Array Oper} {rest : List Oper} {o : Oper} {a : Act} {Q : Exit → Act → World → Prop} (hgd : o.guard = none) (s x : Operand) (t : TypeId)
    (ho : o.op = .call { callee := .builtin .append, args := #[s, x], argTypes := #[t, t] })
    (base : Nat) (e : TypeId) (i : TypeInfo) (z : Value) (size bytes : Nat) (ht : P.underlying t = some (.slice e)) (hi : P.info? e = some i) (hz : i.zero = some z)
    (hsize : i.size = size) (hby : i.bytes = bytes) (hzs : z.cells.size = size) (hsz : 0 < size)
    (v : Value) (n : Nat) (xs : List Value) (hs : a.eval s = v) (hown : w.ownsRow base e size v n xs)
    (ad : Addr) (m c : Nat) (news : List Value) (hx : a.eval x = .slice (some ad) m c) (hl : news.length = m * size) (hnews : ∀ j u, news[j]? = some u → w.cell? (ad.add j) = some u) (h1 : ∀ u ∈ news, u.oneCell' = true) (hm0 : 0 < m)
    (h63 : n + m ≤ maxLen) (hbytes : (n + m) * bytes ≤ 140737488355328) (hbase : base ≤ w.heap.size)
    (h : ∀ v' w', w'.ownsRow base e size v' (n + m) (xs ++ news) → w.grownBy w' v.ownBlock → (v'.ownBlock = v.ownBlock ∨ v'.ownBlock = some w.heap.size) → wpList P ops Q rest (a.put o.dst v') w') : wpList P ops Q (o :: rest) a w := by
  refine wpList_plain hgd fun K hK => ?_
  obtain ⟨v', w', hr, h2, h3, h4⟩ := append_at (P := P) w base t o.type e i z size bytes ht hi hz hsize hby hzs hsz v n xs hown ad m c news hl hnews h1 hm0 h63 hbytes hbase
  unfold Oper.wp execOp
  simp only [ho, resolve, invoke, builtin, Sem.run_bind, Sem.run_pure, Result.andThen_ok, List.map_toArray, List.map_cons, List.map_nil, hs, hx, hr]
  exact hK _ _ (h v' w' h2 h3 h4)
end
/-- What an append of one cell leaves, for a slice whose block may not be one other. -/
theorem app_grown {B : Nat} {e : TypeId} {size : Nat} {w wr w1 : World} {v : Value} {n : Nat} {xs : List Value} {o : Obj}
    (hB : Below B w wr) (hBw : B ≤ wr.heap.size) (hown : wr.ownsRow B e size v n xs) (hgrow : (wr.alloc o).grownBy w1 v.ownBlock) : Below B w w1 :=
  (hB.alloc hBw o).grown hgrow (by simp; omega) (fun j hj => (hown.lt j hj).1)
/-- A block that is not the slice's own stays. -/
theorem app_block {wr w1 : World} {v : Value} {o : Obj} {g : Nat} {t : TypeId} {cs : Array Value} (hb : BlockIs wr g t cs) (hgrow : (wr.alloc o).grownBy w1 v.ownBlock) (hne : v.ownBlock ≠ some g) : BlockIs w1 g t cs := by
  have h1 : BlockIs (wr.alloc o) g t cs := hb.below ((Below.refl _ _).alloc (Nat.le_refl _) o)
  exact (hgrow.block g h1.lt (fun e => hne e.symm)).trans h1
theorem app_ne {wr : World} {v v' : Value} {o : Obj} {g : Nat} (hg : g < wr.heap.size) (hne : v.ownBlock ≠ some g) (h : v'.ownBlock = v.ownBlock ∨ v'.ownBlock = some (wr.alloc o).heap.size) : v'.ownBlock ≠ some g := by
  rcases h with h | h
  · rw [h]; exact hne
  · rw [h]; intro e; injection e with e; simp at e; omega
end Go.Proofs.YtjemjdlaoebffaaDoor

end
section
namespace Go.Proofs.YtjemjdlaoebffaaDoor
open Go.RowKit
/-- The jobs of a set below k. -/
def setTo (s k : Nat) : List Nat := (List.range k).filter fun i => s.testBit i
theorem setTo_yes {s k : Nat} (h : s.testBit k = true) : setTo s (k + 1) = setTo s k ++ [k] := by
  unfold setTo; rw [List.range_succ, List.filter_append]; simp [h]
theorem setTo_no {s k : Nat} (h : s.testBit k = false) : setTo s (k + 1) = setTo s k := by
  unfold setTo; rw [List.range_succ, List.filter_append]; simp [h]
theorem setTo_len (s k : Nat) : (setTo s k).length ≤ k := by
  have := List.length_filter_le (fun i => s.testBit i) (List.range k)
  unfold setTo; simpa using this
theorem hasI_facts : ∀ s : Nat, s < 256 → ∀ j : Nat, j < 8 → (bits BinOp.and IntKind.i64 ((s : Int) / 2 ^ j) 1 == 1) = s.testBit j := by decide +kernel
theorem wpList_appL {P : Program} {ops : Array Oper} {rest : List Oper} {o : Oper} {a : Act} {w w' : World} {Q : Exit → Act → World → Prop} (hgd : o.guard = none) (s x : Operand) (t : TypeId)
    (ho : o.op = .call { callee := .builtin .append, args := #[s, x], argTypes := #[t, t] }) (v u r : Value) (hs : a.eval s = v) (hx : a.eval x = u) (hr : (Builtin.append_ #[t, t] o.type #[v, u]).run P w = .ok r w')
    (h : wpList P ops Q rest (a.put o.dst r) w') : wpList P ops Q (o :: rest) a w := by
  refine wpList_plain hgd fun K hK => ?_
  unfold Oper.wp execOp
  simp only [ho, resolve, invoke, builtin, Sem.run_bind, Sem.run_pure, Result.andThen_ok, List.map_toArray, List.map_cons, List.map_nil, hs, hx, hr]
  exact hK _ _ h
theorem ic_snoc (xs : List Int) (x : Int) : ic xs ++ [Value.int .i64 x] = ic (xs ++ [x]) := by unfold ic; simp
set_option maxRecDepth 100000 in
set_option maxHeartbeats 2000000 in
theorem l4Set_any (n s : Nat) (hn : n ≤ 8) (hs : s < 256) (w : World) : Calls Tryd.prog 168 #[.int .i64 (n : Int), .int .i64 (s : Int)] w fun e w' => ∃ v, e = .returned v ∧ w'.ownsRow w.heap.size 3 1 v (setTo s n).length (ic (natI (setTo s n))) ∧ Below w.heap.size w w' := by
  obtain ⟨i0, hi, hz0, hz1, hz2⟩ := info_parts infoI
  have hown0 : (w.alloc (.cells #[] 3)).ownsRow w.heap.size 3 1 (.slice (some ⟨w.heap.size, 0, none⟩) 0 0) 0 [] := World.ownsRow_made w #[] 0 (Nat.le_refl _) (by unfold maxLen; omega) rfl
  have hb0 := (Below.refl w.heap.size w).alloc (Nat.le_refl _) (.cells #[] 3)
  go_enter Tryd.func168, Tryd.ntmps168
  go_wp2
  go_loopw [5, 6] (fun v i wr => ∃ k : Nat, k ≤ n ∧ i = .int .i64 (k : Int) ∧ wr.ownsRow w.heap.size 3 1 v (setTo s k).length (ic (natI (setTo s k))) ∧ Below w.heap.size w wr) (fun _ i _ => n - (intOf i).toNat)
  case atStart => exact ⟨0, Nat.zero_le _, rfl, hown0, hb0⟩
  case round =>
    obtain ⟨k, hk, rfl, hown, hb⟩ := hrel
    clear hown0 hb0
    obtain ⟨Av, cv, rfl, hnc, hrow⟩ := own_slice hown
    have hk0 : (0 : Int) ≤ k := by omega
    by_cases hlt : k < n
    · have hsz := hb.size
      have hf := hasI_facts s hs k (by omega)
      have hle := setTo_len s k
      cases hbit : s.testBit k
      · have HX : Hid (wr.ownsRow w.heap.size 3 1 (.slice Av (setTo s k).length cv) (setTo s (k + 1)).length (ic (natI (setTo s (k + 1)))) ∧ Below w.heap.size w wr) := by rw [setTo_no hbit]; exact ⟨hown, hb⟩
        rw [hbit] at hf
        clear hown hb hbit hrow hnc hle
        generalize (setTo s k).length = m at *
        go_wp2
        go_roundw
        case rel => exact ⟨k + 1, by omega, by go_num, HX.out.1, HX.out.2⟩
        case measure => simp [intOf]; omega
      · rw [hbit] at hf
        obtain ⟨v', w6, hrun, hown', hgrow, hat⟩ := append_at (P := Tryd.prog) (wr.alloc (.cells #[.int .i64 (k : Int)] 3)) w.heap.size 23 23 3 i0 (.int .i64 0) 1 8 Tryd.underlying23 hi hz0 hz1 hz2 rfl (by decide) (.slice Av (setTo s k).length cv) (setTo s k).length (ic (natI (setTo s k))) (hown.alloc _) ⟨wr.heap.size, 0, none⟩ 1 1 [.int .i64 (k : Int)] rfl (cell_one_new _ _ _) (by intro u hu; simp at hu; subst hu; rfl) (by omega) (by have hmx : (1000 : Nat) + 1 ≤ maxLen := (by unfold maxLen; omega); omega) (by omega) (by simp; omega)
        have hb6 := app_grown hb hsz hown hgrow
        have HX : Hid (w6.ownsRow w.heap.size 3 1 v' (setTo s (k + 1)).length (ic (natI (setTo s (k + 1)))) ∧ Below w.heap.size w w6) := by
          refine ⟨?_, hb6⟩
          rw [setTo_yes hbit, List.length_append, show natI (setTo s k ++ [k]) = natI (setTo s k) ++ [(k : Int)] by unfold natI; simp, ← ic_snoc]
          exact hown'
        obtain ⟨Av', cv', rfl, _⟩ := own_slice hown'
        have HRUN := Lib.hid hrun
        clear hown' hb6 hgrow hat hown hb hrow hrun hi hz0 hz1 hz2 hnc hbit hle
        generalize (setTo s k).length = m at *
        go_wp2_with (at_builtin; refine wpList_appL rfl _ _ _ rfl _ _ _ rfl rfl HRUN.out ?_; clear HRUN)
        go_roundw
        case rel => exact ⟨k + 1, by omega, by go_num, HX.out.1, HX.out.2⟩
        case measure => simp [intOf]; omega
    · obtain rfl : k = n := by omega
      go_wp2
      go_ret
      exact ⟨_, rfl, hown, hb⟩
theorem setTo_all : ∀ n, n < 9 → setTo (2 ^ n - 1) n = List.range n := by decide +kernel
theorem allI_facts : ∀ n : Nat, n < 9 → wrap64 (wrap64 (2 ^ n) - 1) = ((2 ^ n - 1 : Nat) : Int) := by decide +kernel
theorem l6All_any (A : Option Addr) (n c : Nat) (hn : n ≤ 8) (w : World) : Calls Tryd.prog 119 #[.slice A n c] w fun e w' => ∃ v, e = .returned v ∧ w'.ownsRow w.heap.size 3 1 v n (ic (natI (List.range n))) ∧ Below w.heap.size w w' := by
  have HC := Lib.hid (l4Set_any n (2 ^ n - 1) hn (pow_lt n (by omega)) w)
  rw [setTo_all n (by omega)] at HC
  rw [List.length_range] at HC
  have HF := Lib.hid (allI_facts n (by omega))
  go_enter Tryd.func119, Tryd.ntmps119
  go_wp2_with fail
  rw [HF.out]
  refine HC.out.mono ?_
  rintro e w1 ⟨v, rfl, hown, hb⟩
  go_wp2
  go_ret
  exact ⟨v, rfl, hown, hb⟩
end Go.Proofs.YtjemjdlaoebffaaDoor

end
section
namespace Go.Proofs.YtjemjdlaoebffaaDoor
open Go.RowKit
theorem own_whole {w : World} {base : Nat} {v : Value} {n : Nat} {cs : List Value} (h : w.ownsRow base 3 1 v n cs) : ∃ A c, v = .slice A n c ∧ Row w A cs := by
  obtain ⟨A, c, rfl, _, hr⟩ := own_slice h
  exact ⟨A, c, rfl, hr⟩
theorem not_nil {w : World} {base n : Nat} {v : Value} {cs : List Value} (h : w.ownsRow base 3 1 v n cs) (hn : v ≠ .slice none 0 0) : ∃ ad c, v = .slice (some ad) n c := by
  rcases h.2 with ⟨hv, _⟩ | ⟨g, cap, cur, hv, _⟩
  · exact absurd hv hn
  · exact ⟨_, _, hv⟩
theorem row_src {w : World} {ad : Addr} {cs : List Value} (h : Row w (some ad) cs) : ∀ j u, cs[j]? = some u → w.cell? (ad.add j) = some u := by
  intro j u hu
  obtain ⟨a', h1, _, h3⟩ := h (Nat.lt_of_le_of_lt (Nat.zero_le _) (List.getElem?_eq_some_iff.1 hu).1)
  obtain rfl := Option.some.inj h1
  exact h3 j u hu
set_option maxRecDepth 100000 in
theorem l1Own_some (ad : Addr) (c : Nat) (xs : List Int) (w : World) (hr : Row w (some ad) (ic xs)) (hn : xs.length ≤ 100000) :
    Calls Tryd.prog 101 #[.slice (some ad) xs.length c] w fun e w' => ∃ ad' c', e = .returned (.slice (some ad') xs.length c') ∧ w'.ownsRow w.heap.size 3 1 (.slice (some ad') xs.length c') xs.length (ic xs) ∧ Below w.heap.size w w' := by
  obtain ⟨i0, hi, hz0, hz1, hz2⟩ := info_parts infoI
  have hb0 := (Below.refl w.heap.size w).alloc (Nat.le_refl _) (.cells #[] 3)
  have hown0 : (w.alloc (.cells #[] 3)).ownsRow w.heap.size 3 1 (.slice (some ⟨w.heap.size, 0, none⟩) 0 0) 0 [] := World.ownsRow_made w #[] 0 (Nat.le_refl _) (by unfold maxLen; omega) rfl
  have hsrc := row_src (hr.below hb0)
  go_enter Tryd.func101, Tryd.ntmps101
  go_wp2_with (at_builtin; refine wpList_append_own _ rfl _ _ 23 rfl w.heap.size 3 i0 (.int .i64 0) 1 8 Tryd.underlying23 hi hz0 hz1 hz2 rfl (by decide) _ _ _ rfl hown0 ad xs.length c (ic xs) rfl (by rw [ic_len]; omega) hsrc (by intro u hu; unfold ic at hu; obtain ⟨x, _, rfl⟩ := List.mem_map.1 hu; rfl) (by unfold maxLen; omega) (by omega) (by simp) ?_; intro v' w3 hown' hgrow hnil)
  go_ret
  rw [Nat.zero_add, List.nil_append] at hown'
  obtain ⟨ad', c', rfl⟩ := not_nil hown' (fun e => by have := (hnil.1 e).1; injection this with h _ _; cases h)
  exact ⟨ad', c', rfl, hown', hb0.grown hgrow (by simp) (fun j hj => (hown0.lt j hj).1)⟩
theorem l1Own_any (ad : Addr) (c : Nat) (xs : List Int) (w : World) (hr : Row w (some ad) (ic xs)) (hn : xs.length ≤ 100000) :
    Calls Tryd.prog 101 #[.slice (some ad) xs.length c] w fun e w' => ∃ v, e = .returned v ∧ w'.ownsRow w.heap.size 3 1 v xs.length (ic xs) ∧ Below w.heap.size w w' :=
  (l1Own_some ad c xs w hr hn).mono fun _ _ ⟨_, _, he, ho, hb⟩ => ⟨_, he, ho, hb⟩
/-- Two neighbors exchanged. -/
def swI (xs : List Int) (i : Nat) : List Int := (xs.set i (xs.getD (i + 1) 0)).set (i + 1) (xs.getD i 0)
theorem swI_len (xs : List Int) (i : Nat) : (swI xs i).length = xs.length := by unfold swI; simp
theorem take_set {cur : Array Value} {n i : Nat} {cs : List Value} (h : cur.toList.take n = cs) (hi : i < n) (v : Value) : (cur.setIfInBounds i v).toList.take n = cs.set i v := by
  subst h
  apply List.ext_getElem?
  intro j
  by_cases hj : j < n
  · rw [List.getElem?_take, if_pos hj, Array.getElem?_toList, Array.getElem?_setIfInBounds, List.getElem?_set]
    by_cases e : i = j
    · subst e
      by_cases hc : i < cur.size
      · simp [hc]; omega
      · simp [hc]; omega
    · rw [if_neg e, if_neg e, List.getElem?_take, if_pos hj, Array.getElem?_toList]
  · rw [List.getElem?_eq_none (by simp; omega), List.getElem?_eq_none (by simp; omega)]
theorem ic_setv (xs : List Int) (j : Nat) (x : Int) : (ic xs).set j (.int .i64 x) = ic (xs.set j x) := by unfold ic; rw [List.map_set]
theorem own_swapped {w : World} {B g c n i : Nat} {cur : Array Value} {xs : List Int} (h : BlockIs w g 3 ((cur.setIfInBounds i (.int .i64 (xs.getD (i + 1) 0))).setIfInBounds (i + 1) (.int .i64 (xs.getD i 0)))) (hg : B ≤ g) (hn : n ≤ c) (hc : c ≤ maxLen) (hs : cur.size = c * 1) (ht : cur.toList.take (n * 1) = ic xs) (hi : i + 1 < n) :
    w.ownsRow B 3 1 (.slice (some ⟨g, 0, none⟩) n c) n (ic (swI xs i)) := by
  have := h.own (base := B) (n := n) (c := c) (size := 1) hg (by simp [hs]) hn hc (by simp; omega)
  rw [Nat.mul_one] at this ht
  rwa [take_set (take_set ht (by omega) _) (by omega) _, ic_setv, ic_setv] at this
theorem cell_take {w : World} {g : Nat} {cur : Array Value} {n : Nat} {xs : List Int} (h : BlockIs w g 3 cur) (ht : cur.toList.take (n * 1) = ic xs) {k : Nat} (hk : k < xs.length) : w.cell? ⟨g, k, none⟩ = some (.int .i64 xs[k]) := by
  rw [h.cell]
  have h1 : (cur.toList.take (n * 1))[k]? = some (.int .i64 xs[k]) := by
    rw [ht, List.getElem?_eq_getElem (by rw [ic_len]; exact hk), ic_get]
  rw [List.getElem?_take] at h1
  split at h1
  · rwa [Array.getElem?_toList] at h1
  · cases h1
end Go.Proofs.YtjemjdlaoebffaaDoor

end
section
namespace Go.Proofs.YtjemjdlaoebffaaDoor
theorem set_ne {L : Array Bool} {k j : Nat} (h : k ≠ j) (b : Bool) : (L.setIfInBounds k true).getD j b = L.getD j b := by
  rw [getD_set_true, if_neg (fun e => h e.1)]
theorem set_eq {L : Array Bool} {k : Nat} (h : k < L.size) (b : Bool) : (L.setIfInBounds k true).getD k b = true := by
  rw [getD_set_true, if_pos ⟨rfl, h⟩]
end Go.Proofs.YtjemjdlaoebffaaDoor

end
section
namespace Go.Proofs.YtjemjdlaoebffaaDoor
open Go.RowKit
theorem exec_slice {P : Program} {o : Oper} {ev : Operand → Value} {x : Operand} {lo hi mx : Option Operand} {t : TypeId} {v : Value} {w : World} (ho : o.op = .slice t x lo hi mx) (hr : (Instr.sliceAt t (ev x) (lo.map ev) (hi.map ev) (mx.map ev)).run P w = .ok v w) : (execOp ev o).run P w = .ok (.value v) w := by
  unfold execOp
  simp [ho, hr, Result.andThen]
theorem exec_append {P : Program} {o : Oper} {ev : Operand → Value} {s x : Operand} {t : TypeId} {v u r : Value} {w w' : World} (ho : o.op = .call { callee := .builtin .append, args := #[s, x], argTypes := #[t, t] }) (hs : ev s = v) (hx : ev x = u) (hr : (Builtin.append_ #[t, t] o.type #[v, u]).run P w = .ok r w') : (execOp ev o).run P w = .ok (.value r) w' := by
  unfold execOp
  simp only [ho, resolve, invoke, builtin, Sem.run_bind, Sem.run_pure, Result.andThen_ok, List.map_toArray, List.map_cons, List.map_nil, hs, hx, hr]
theorem slice_h (ad : Addr) (n c : Nat) (h : Nat) (w : World) (hc : h ≤ c) : (Instr.sliceAt 23 (.slice (some ad) n c) none (some (.int .i64 (h : Int))) none).run Tryd.prog w = .ok (.slice (some ad) h c) w := by
  simp [hc, go_sem]
def tailAd (ad : Addr) (l c : Nat) : Addr := if c = l then ad else ad.add l
theorem slice_l (ad : Addr) (n c : Nat) (l : Nat) (w : World) (hl : l ≤ n) : (Instr.sliceAt 23 (.slice (some ad) n c) (some (.int .i64 (l : Int))) none none).run Tryd.prog w = .ok (.slice (some (tailAd ad l c)) (n - l) (c - l)) w := by
  unfold tailAd
  simp [hl, go_sem]
  split <;> simp_all
theorem tail_src {w : World} {ad : Addr} {xs : List Int} {l c : Nat} (hr : Row w (some ad) (ic xs)) (hc : xs.length ≤ c) : ∀ j u, (ic (xs.drop l))[j]? = some u → w.cell? ((tailAd ad l c).add j) = some u := by
  intro j u hu
  have hj : j < (xs.drop l).length := by have := (List.getElem?_eq_some_iff.1 hu).1; rwa [ic_len] at this
  have hj' : l + j < xs.length := by simp at hj; omega
  have hne : c ≠ l := by omega
  unfold tailAd
  rw [if_neg hne, Addr.add_add]
  refine row_src hr _ _ ?_
  unfold ic at hu ⊢
  rw [List.getElem?_map, List.getElem?_drop] at hu
  rw [List.getElem?_map]; exact hu
theorem own_lower {w : World} {B B' e size n : Nat} {v : Value} {xs : List Value} (h : w.ownsRow B' e size v n xs) (hB : B ≤ B') : w.ownsRow B e size v n xs :=
  ⟨h.1, h.2.imp id fun ⟨g, cap, cur, hv, hb, r⟩ => ⟨g, cap, cur, hv, Nat.le_trans hB hb, r⟩⟩
theorem own_below {w w' : World} {B n : Nat} {v : Value} {xs : List Value} (h : w.ownsRow B 3 1 v n xs) (hb : Below w.heap.size w w') : w'.ownsRow B 3 1 v n xs := by
  refine ⟨h.1, h.2.imp id fun ⟨g, cap, cur, hv, hB, hg, r⟩ => ⟨g, cap, cur, hv, hB, ?_, r⟩⟩
  rw [hb.block g (Array.getElem?_eq_some_iff.1 hg).1]; exact hg
theorem row_take {w : World} {A : Option Addr} {xs : List Int} (h : Row w A (ic xs)) (k : Nat) : Row w A (ic (xs.take k)) := by
  intro h0
  rw [ic_len] at h0
  obtain ⟨ad, h1, h2, h3⟩ := h (by rw [ic_len]; simp at h0; omega)
  refine ⟨ad, h1, h2, fun j u hu => h3 j u ?_⟩
  unfold ic at hu ⊢
  rw [List.map_take, List.getElem?_take] at hu
  split at hu
  · exact hu
  · cases hu
theorem own_part {ad : Addr} {c k : Nat} {xs : List Int} {w : World} (hr : Row w (some ad) (ic xs)) (hk : k ≤ xs.length) (hn : xs.length ≤ 100000) :
    Calls Tryd.prog 101 #[.slice (some ad) k c] w fun e w' => ∃ ad' c', e = .returned (.slice (some ad') k c') ∧ w'.ownsRow w.heap.size 3 1 (.slice (some ad') k c') k (ic (xs.take k)) ∧ Below w.heap.size w w' := by
  have hl : (xs.take k).length = k := by simp; omega
  have h := l1Own_some ad c (xs.take k) w (row_take hr k) (by omega)
  rwa [hl] at h
theorem slice_some {B n : Nat} {w : World} {ad : Addr} {k c : Nat} {xs : List Value} (h : w.ownsRow B 3 1 (.slice (some ad) k c) n xs) : k = n ∧ n ≤ c := by
  rcases h.2 with ⟨hv, _⟩ | ⟨g, cap, cur, hv, _, _, hc, _⟩
  · cases hv
  · injection hv with _ e2 e3
    exact ⟨e2, by omega⟩
theorem ic_one {xs : List Int} : ∀ u ∈ ic xs, u.oneCell' = true := by intro u hu; unfold ic at hu; obtain ⟨x, _, rfl⟩ := List.mem_map.1 hu; rfl
end Go.Proofs.YtjemjdlaoebffaaDoor

end
section
namespace Go.Proofs.YtjemjdlaoebffaaDoor
section
variable {P : Program} {ops : Array Oper} {Q : Exit → Act → World → Prop}
def StepG {γ : Type} (P : Program) (S : γ → Array Bool → World → Prop) (val : γ → Nat → Value) (x : γ) (L : Array Bool) (i : Nat) (o : Oper) (a : Act) (w : World) : Prop :=
  (∃ x' w', (∀ j, L.getD j true = true → val x' j = val x j) ∧ (execOp a.eval o).run P w = .ok (.value (val x' i)) w' ∧ S x' (L.setIfInBounds i true) w') ∨
  (∃ f args, (execOp a.eval o).run P w = .ok (.enter f args) w ∧ Calls P f args w fun e w' => ∃ x', (∀ j, L.getD j true = true → val x' j = val x j) ∧ e = .returned (val x' i) ∧ S x' (L.setIfInBounds i true) w')
theorem wp_region_detG {γ : Type} {id : Nat} {tm0 : Array Value} {df : List Deferred} {w : World} (hm : P.follows .mixedOrders = true) (S : γ → Array Bool → World → Prop) (val : γ → Nat → Value) (x0 : γ) (hback : backB ops = true) (hown : ownDst ops tm0.size = true)
    (h0 : S x0 (Array.replicate ops.size false) w.drew)
    (hdone : ∀ (x : γ) (L : Array Bool) (tm : Array Value) (w : World), (∀ i, i < ops.size → L.getD i true = true) → S x L w → tm.size = tm0.size → (∀ t, ((List.range ops.size).all fun j => !((ops[j]?).bind (·.dst) == some t)) = true → tm.getD t undef = tm0.getD t undef) → (∀ j o d, ops[j]? = some o → o.dst = some d → tm.getD d undef = val x j) → Q .normal ⟨tm, df⟩ w)
    (hstep : ∀ (x : γ) (L : Array Bool) (a : Act) (w : World) (i : Nat) (o : Oper), L.size = ops.size → ops[i]? = some o → L.getD i true = false → (∀ j, edgeB ops i j = true → L.getD j true = true) → (∀ j, edgeB ops j i = true → L.getD j true = false) → S x L w → (∀ t, ((List.range ops.size).all fun j => !((ops[j]?).bind (·.dst) == some t)) = true → a.tmps.getD t undef = tm0.getD t undef) →
      (∀ j oj d, edgeB ops i j = true → ops[j]? = some oj → oj.dst = some d → a.tmps.getD d undef = val x j) →
      (∀ j oj d, edgeB ops j i = true → ops[j]? = some oj → oj.dst = some d → a.tmps.getD d undef = tm0.getD d undef) → o.guard = none ∧ StepG P S val x L i o a w) :
    (Code.region id ops true).wp P Q ⟨tm0, df⟩ w := by
  refine wp_region_inv hm (fun L a w => ∃ x, S x L w ∧ a.defers = df ∧ a.tmps.size = tm0.size ∧ (∀ t, ((List.range ops.size).all fun j => !((ops[j]?).bind (·.dst) == some t)) = true → a.tmps.getD t undef = tm0.getD t undef) ∧ (∀ j o d, ops[j]? = some o → o.dst = some d → L.getD j true = true → a.tmps.getD d undef = val x j) ∧ (∀ j o d, ops[j]? = some o → o.dst = some d → L.getD j true = false → a.tmps.getD d undef = tm0.getD d undef)) (back_of hback) ?_ ?_ ?_
  · refine ⟨x0, h0, rfl, rfl, fun _ _ => rfl, fun j o d ho _ hl => ?_, fun _ _ _ _ _ _ => rfl⟩
    have hj : j < ops.size := (Array.getElem?_eq_some_iff.1 ho).1
    simp [Array.getD_eq_getD_getElem?, hj] at hl
  · intro L a w ⟨x, hS, hdf, hsz, hlow, hval, _⟩ hall
    obtain ⟨tm, df'⟩ := a
    simp only at hdf hsz
    subst hdf
    exact hdone x L tm w hall hS hsz hlow (fun j o d ho hd => hval j o d ho hd (hall j (Array.getElem?_eq_some_iff.1 ho).1))
  · intro L a w i o hC ⟨x, hS, hdf, hsz, hlow, hval, hold⟩ ho hl hd
    obtain ⟨hg, hst⟩ := hstep x L a w i o hC.1 ho hl (fun j he => dep_of ho hd he) (fun j he => hC.no he hl) hS hlow (fun j oj d he hoj hdj => hval j oj d hoj hdj (dep_of ho hd he)) (fun j oj d he hoj hdj => hold j oj d hoj hdj (hC.no he hl))
    have next : ∀ x' w', (∀ j, L.getD j true = true → val x' j = val x j) → S x' (L.setIfInBounds i true) w' → S x' (L.setIfInBounds i true) w' ∧ (a.put o.dst (val x' i)).defers = df ∧ (a.put o.dst (val x' i)).tmps.size = tm0.size ∧ (∀ t, ((List.range ops.size).all fun j => !((ops[j]?).bind (·.dst) == some t)) = true → (a.put o.dst (val x' i)).tmps.getD t undef = tm0.getD t undef) ∧ (∀ j o' d, ops[j]? = some o' → o'.dst = some d → (L.setIfInBounds i true).getD j true = true → (a.put o.dst (val x' i)).tmps.getD d undef = val x' j) ∧ (∀ j o' d, ops[j]? = some o' → o'.dst = some d → (L.setIfInBounds i true).getD j true = false → (a.put o.dst (val x' i)).tmps.getD d undef = tm0.getD d undef) := by
      intro x' w' hag hS'
      cases hod : o.dst with
      | none =>
        refine ⟨hS', hdf, hsz, hlow, fun j o' d ho' hd' hl' => ?_, fun j o' d ho' hd' hl' => ?_⟩
        · have hne : i ≠ j := fun e => by subst e; rw [ho] at ho'; injection ho' with ho'; subst ho'; rw [hod] at hd'; cases hd'
          rw [getD_set_true, if_neg (fun h => hne h.1)] at hl'
          rw [hag j hl']; exact hval j o' d ho' hd' hl'
        · have hne : i ≠ j := fun e => by subst e; rw [ho] at ho'; injection ho' with ho'; subst ho'; rw [hod] at hd'; cases hd'
          rw [getD_set_true, if_neg (fun h => hne h.1)] at hl'
          exact hold j o' d ho' hd' hl'
      | some d0 =>
        have hput : ∀ t, (a.put (some d0) (val x' i)).tmps.getD t undef = if d0 = t ∧ t < a.tmps.size then val x' i else a.tmps.getD t undef := by
          intro t
          unfold Act.put
          simp only [Array.getD_eq_getD_getElem?, Array.getElem?_setIfInBounds]
          by_cases e : d0 = t
          · subst e
            by_cases h : d0 < a.tmps.size
            · simp [h]
            · simp [h]
          · simp [e]
        refine ⟨hS', hdf, by simp [Act.put, hsz], fun t ht => ?_, fun j o' d ho' hd' hl' => ?_, fun j o' d ho' hd' hl' => ?_⟩
        · rw [hput, if_neg (fun h => ?_)]
          · exact hlow t ht
          · have := List.all_eq_true.1 ht i (List.mem_range.2 (Array.getElem?_eq_some_iff.1 ho).1)
            rw [ho] at this
            simp [hod, h.1] at this
        · rw [hput]
          by_cases e : d0 = d
          · subst e
            have hij := ownDst_inj hown ho hod ho' hd'
            subst hij
            rw [if_pos ⟨rfl, by rw [hsz]; exact ownDst_lt hown ho hod⟩]
          · rw [if_neg (fun h => e h.1)]
            have hne : i ≠ j := fun e' => by subst e'; rw [ho] at ho'; injection ho' with ho'; subst ho'; rw [hod] at hd'; injection hd' with hd'; exact e hd'
            rw [getD_set_true, if_neg (fun h => hne h.1)] at hl'
            rw [hag j hl']; exact hval j o' d ho' hd' hl'
        · have hli : i ≠ j := fun e => by
            subst e
            have hC1 : i < L.size := by rw [hC.1]; exact (Array.getElem?_eq_some_iff.1 ho).1
            rw [getD_set_true, if_pos ⟨rfl, hC1⟩] at hl'; cases hl'
          rw [getD_set_true, if_neg (fun h => hli h.1)] at hl'
          have hdd : d0 ≠ d := fun e => by subst e; exact hli (ownDst_inj hown ho' hd' ho hod)
          rw [hput, if_neg (fun h => hdd h.1)]
          exact hold j o' d ho' hd' hl'
    rcases hst with ⟨x', w', hag, hr, hS'⟩ | ⟨f, args, hr, hc⟩
    · exact wpOp_value ho hg hr ⟨x', next x' w' hag hS'⟩
    · refine wpOp_enter ho hg hr (hc.mono ?_)
      rintro e w' ⟨x', hag, rfl, hS'⟩
      exact ⟨_, rfl, x', next x' w' hag hS'⟩
end
end Go.Proofs.YtjemjdlaoebffaaDoor

end
section
namespace Go.Proofs.YtjemjdlaoebffaaDoor
open Go.RowKit
section
variable (A : Option Addr) (c : Nat) (js : List J) (w : World) (hr : Row w A (jc js)) (i k : Nat) (hi : i < js.length) (hk : k < js.length)
include hr hi hk
set_option maxRecDepth 100000 in
set_option maxHeartbeats 4000000 in
theorem l6Sooner_any : Calls Tryd.prog 177 #[.slice A js.length c, .int .i64 (i : Int), .int .i64 (k : Int)] w fun e w' => e = .returned (.bool (soonB js i k)) ∧ ∃ m, w' = w.drewN m := by
  obtain ⟨ad, rfl, hadb, a0, a1, a2, a3⟩ := hr.job hi
  obtain ⟨ad', hA', _, b0, b1, b2, b3⟩ := hr.job hk
  injection hA' with hA'
  subst hA'
  have HS : Hid (soonB js i k = if js[i].d ≠ js[k].d then decide (js[i].d < js[k].d) else if js[i].t ≠ js[k].t then decide (js[i].t < js[k].t) else decide (i < k)) := by
    show _ = _
    unfold soonB
    rw [getD_at js j0 hi, getD_at js j0 hk]
  have hi0 : (0 : Int) ≤ i := by omega
  have hi1 : (i : Int) < js.length := by omega
  have hk0 : (0 : Int) ≤ k := by omega
  have hk1 : (k : Int) < js.length := by omega
  clear hr
  generalize js[i] = x at *
  generalize js[k] = y at *
  by_cases h1 : x.d = y.d
  · have e1 : (x.d != y.d) = false := by rw [h1]; simp
    by_cases h2 : x.t = y.t
    · have e2 : (x.t != y.t) = false := by rw [h2]; simp
      have HF : Hid (soonB js i k = decide (i < k)) := by show _ = _; rw [HS.out, if_neg (fun h => h h1), if_neg (fun h => h h2)]
      clear HS h1 h2
      go_enter Tryd.func177, Tryd.ntmps177
      go_wp2
      go_quiet (fail)
      go_wp2
      go_quiet (fail)
      go_wp2
      go_ret
      exact ⟨by rw [HF.out]; simp, _, by first | rfl | exact World.drewN_drewN .. | exact (World.drewN_drewN ..).trans (World.drewN_drewN ..)⟩
    · have e2 : (x.t != y.t) = true := by simpa using h2
      have HF : Hid (soonB js i k = decide (x.t < y.t)) := by show _ = _; rw [HS.out, if_neg (fun h => h h1), if_pos h2]
      clear HS h1 h2
      go_enter Tryd.func177, Tryd.ntmps177
      go_wp2
      go_quiet (fail)
      go_wp2
      go_quiet (fail)
      go_wp2
      go_quiet (fail)
      go_wp2
      go_ret
      exact ⟨by rw [HF.out]; rfl, _, by first | rfl | exact World.drewN_drewN .. | exact (World.drewN_drewN ..).trans (World.drewN_drewN ..)⟩
  · have e1 : (x.d != y.d) = true := by simpa using h1
    have HF : Hid (soonB js i k = decide (x.d < y.d)) := by show _ = _; rw [HS.out, if_pos h1]
    clear HS h1
    go_enter Tryd.func177, Tryd.ntmps177
    go_wp2
    go_quiet (fail)
    go_wp2
    go_quiet (fail)
    go_wp2
    go_ret
    exact ⟨by rw [HF.out]; rfl, _, by first | rfl | exact World.drewN_drewN .. | exact (World.drewN_drewN ..).trans (World.drewN_drewN ..)⟩
end
end Go.Proofs.YtjemjdlaoebffaaDoor

end
section
namespace Go.Proofs.YtjemjdlaoebffaaDoor
open Go.RowKit
theorem empty_neS {w : World} {B g : Nat} {t : TypeId} {v : Value} (h : w.ownsRow B 3 1 (.slice (some ⟨g, 0, none⟩) 0 0) 0 []) (hb : BlockIs w g t #[v]) : False := by
  rcases h.2 with ⟨h0, _⟩ | ⟨g', cap, cur, h0, _, hk, _, _, h3, _⟩
  · cases h0
  · injection h0 with h0 _ h2
    injection h0 with h0
    injection h0 with h0
    subst h0 h2
    rw [show w.heap[g]? = _ from hb] at hk
    injection hk with hk
    injection hk with hk _
    subst hk
    simp at h3
theorem head_srcS {w : World} {ad : Addr} {xs : List Int} {k : Nat} (h : Row w (some ad) (ic xs)) : ∀ j u, (ic (xs.take k))[j]? = some u → w.cell? (ad.add j) = some u := fun j u hu => by
  refine row_src h j u ?_
  unfold ic at hu ⊢
  rw [List.map_take, List.getElem?_take] at hu
  split at hu
  · exact hu
  · cases hu
theorem own_block2S {w : World} {B n : Nat} {v : Value} {cs : List Value} (h : w.ownsRow B 3 1 v n cs) (hn : 0 < n) : ∃ g, B ≤ g ∧ (∃ c, v = .slice (some ⟨g, 0, none⟩) n c) ∧ True := by
  rcases h.2 with ⟨_, h0⟩ | ⟨g, cap, cur, hv, hb, _⟩
  · omega
  · exact ⟨g, hb, ⟨cap, hv⟩, trivial⟩
theorem but_i0 {a0 b0 v1 v10 v11 v12 v13 v14 v15 v2 v3 v4 v5 v6 v7 v8 v9 : Value} (j : Nat) (h0 : j ≠ 0) : (#[a0, v1, v2, v3, v4, v5, v6, v7, v8, v9, v10, v11, v12, v13, v14, v15] : Array Value).getD j undef = (#[b0, v1, v2, v3, v4, v5, v6, v7, v8, v9, v10, v11, v12, v13, v14, v15] : Array Value).getD j undef := by
  rcases (by omega : j = 1 ∨ j = 2 ∨ j = 3 ∨ j = 4 ∨ j = 5 ∨ j = 6 ∨ j = 7 ∨ j = 8 ∨ j = 9 ∨ j = 10 ∨ j = 11 ∨ j = 12 ∨ j = 13 ∨ j = 14 ∨ j = 15 ∨ 15 < j) with rfl | rfl | rfl | rfl | rfl | rfl | rfl | rfl | rfl | rfl | rfl | rfl | rfl | rfl | rfl | h
  all_goals first | rfl | (simp only [Array.getD_eq_getD_getElem?]; rw [Array.getElem?_eq_none (by simp; omega), Array.getElem?_eq_none (by simp; omega)])
theorem but_i4 {a4 b4 v0 v1 v10 v11 v12 v13 v14 v15 v2 v3 v5 v6 v7 v8 v9 : Value} (j : Nat) (h4 : j ≠ 4) : (#[v0, v1, v2, v3, a4, v5, v6, v7, v8, v9, v10, v11, v12, v13, v14, v15] : Array Value).getD j undef = (#[v0, v1, v2, v3, b4, v5, v6, v7, v8, v9, v10, v11, v12, v13, v14, v15] : Array Value).getD j undef := by
  rcases (by omega : j = 0 ∨ j = 1 ∨ j = 2 ∨ j = 3 ∨ j = 5 ∨ j = 6 ∨ j = 7 ∨ j = 8 ∨ j = 9 ∨ j = 10 ∨ j = 11 ∨ j = 12 ∨ j = 13 ∨ j = 14 ∨ j = 15 ∨ 15 < j) with rfl | rfl | rfl | rfl | rfl | rfl | rfl | rfl | rfl | rfl | rfl | rfl | rfl | rfl | rfl | h
  all_goals first | rfl | (simp only [Array.getD_eq_getD_getElem?]; rw [Array.getElem?_eq_none (by simp; omega), Array.getElem?_eq_none (by simp; omega)])
theorem but_i9 {a9 b9 v0 v1 v10 v11 v12 v13 v14 v15 v2 v3 v4 v5 v6 v7 v8 : Value} (j : Nat) (h9 : j ≠ 9) : (#[v0, v1, v2, v3, v4, v5, v6, v7, v8, a9, v10, v11, v12, v13, v14, v15] : Array Value).getD j undef = (#[v0, v1, v2, v3, v4, v5, v6, v7, v8, b9, v10, v11, v12, v13, v14, v15] : Array Value).getD j undef := by
  rcases (by omega : j = 0 ∨ j = 1 ∨ j = 2 ∨ j = 3 ∨ j = 4 ∨ j = 5 ∨ j = 6 ∨ j = 7 ∨ j = 8 ∨ j = 10 ∨ j = 11 ∨ j = 12 ∨ j = 13 ∨ j = 14 ∨ j = 15 ∨ 15 < j) with rfl | rfl | rfl | rfl | rfl | rfl | rfl | rfl | rfl | rfl | rfl | rfl | rfl | rfl | rfl | h
  all_goals first | rfl | (simp only [Array.getD_eq_getD_getElem?]; rw [Array.getElem?_eq_none (by simp; omega), Array.getElem?_eq_none (by simp; omega)])
theorem but_i10 {a10 b10 v0 v1 v11 v12 v13 v14 v15 v2 v3 v4 v5 v6 v7 v8 v9 : Value} (j : Nat) (h10 : j ≠ 10) : (#[v0, v1, v2, v3, v4, v5, v6, v7, v8, v9, a10, v11, v12, v13, v14, v15] : Array Value).getD j undef = (#[v0, v1, v2, v3, v4, v5, v6, v7, v8, v9, b10, v11, v12, v13, v14, v15] : Array Value).getD j undef := by
  rcases (by omega : j = 0 ∨ j = 1 ∨ j = 2 ∨ j = 3 ∨ j = 4 ∨ j = 5 ∨ j = 6 ∨ j = 7 ∨ j = 8 ∨ j = 9 ∨ j = 11 ∨ j = 12 ∨ j = 13 ∨ j = 14 ∨ j = 15 ∨ 15 < j) with rfl | rfl | rfl | rfl | rfl | rfl | rfl | rfl | rfl | rfl | rfl | rfl | rfl | rfl | rfl | h
  all_goals first | rfl | (simp only [Array.getD_eq_getD_getElem?]; rw [Array.getElem?_eq_none (by simp; omega), Array.getElem?_eq_none (by simp; omega)])
theorem but_i14 {a14 a15 b14 b15 v0 v1 v10 v11 v12 v13 v2 v3 v4 v5 v6 v7 v8 v9 : Value} (j : Nat) (h14 : j ≠ 14) (h15 : j ≠ 15) : (#[v0, v1, v2, v3, v4, v5, v6, v7, v8, v9, v10, v11, v12, v13, a14, a15] : Array Value).getD j undef = (#[v0, v1, v2, v3, v4, v5, v6, v7, v8, v9, v10, v11, v12, v13, b14, b15] : Array Value).getD j undef := by
  rcases (by omega : j = 0 ∨ j = 1 ∨ j = 2 ∨ j = 3 ∨ j = 4 ∨ j = 5 ∨ j = 6 ∨ j = 7 ∨ j = 8 ∨ j = 9 ∨ j = 10 ∨ j = 11 ∨ j = 12 ∨ j = 13 ∨ 15 < j) with rfl | rfl | rfl | rfl | rfl | rfl | rfl | rfl | rfl | rfl | rfl | rfl | rfl | rfl | h
  all_goals first | rfl | (simp only [Array.getD_eq_getD_getElem?]; rw [Array.getElem?_eq_none (by simp; omega), Array.getElem?_eq_none (by simp; omega)])
section
variable (A B : Option Addr) (c d : Nat) (js : List J) (l : List Nat) (w : World) (hr : Row w A (jc js)) (hq : Row w B (ic (natI l))) (hl : ∀ x ∈ l, x < js.length) (hn : l.length ≤ 8)
include hr hq hl hn
set_option maxRecDepth 100000 in
set_option maxHeartbeats 4000000 in
theorem l6Due_any : Calls Tryd.prog 136 #[.slice A js.length c, .slice B l.length d] w fun e w' => ∃ v, e = .returned v ∧ w'.ownsRow w.heap.size 3 1 v l.length (ic (natI (dueL js l))) ∧ Below w.heap.size w w' := by
  obtain ⟨i0, hi, hz0, hz1, hz2⟩ := info_parts infoI
  have hb0 := (Below.refl w.heap.size w).alloc (Nat.le_refl _) (.cells #[] 3)
  have hown0 : (w.alloc (.cells #[] 3)).ownsRow w.heap.size 3 1 (.slice (some ⟨w.heap.size, 0, none⟩) 0 0) 0 [] := World.ownsRow_made w #[] 0 (Nat.le_refl _) (by unfold maxLen; omega) rfl
  have H0 := Lib.hid (And.intro hown0 hb0)
  clear hown0 hb0
  go_enter Tryd.func136, Tryd.ntmps136
  go_wp2
  go_loopw [5, 6] (fun v i wr => ∃ (k : Nat) (ad : Addr) (cc : Nat), k ≤ l.length ∧ v = .slice (some ad) k cc ∧ i = .int .i64 (k : Int) ∧ Hid (wr.ownsRow w.heap.size 3 1 (.slice (some ad) k cc) k (ic (natI (dueTo js l k)))) ∧ Hid (Below w.heap.size w wr)) (fun _ i _ => l.length - (intOf i).toNat)
  case atStart => exact ⟨0, _, 0, Nat.zero_le _, rfl, rfl, H0.out.1, H0.out.2⟩
  case round =>
    obtain ⟨i, ad, cc, hik, rfl, rfl, HO, HW⟩ := hrel
    clear H0
    by_cases hlt : i < l.length
    · have hi0 : (0 : Int) ≤ i := by omega
      have hi1 : (i : Int) < l.length := by omega
      have hol := dueTo_len js l i
      obtain ⟨bd, rfl, hcb⟩ := hq.nat hlt
      have hxl : l[i] < js.length := hl _ (List.getElem_mem hlt)
      have hxg : l.getD i 0 = l[i] := getD_at l 0 hlt
      have HINS : Hid (dueTo js l (i + 1) = insD js l[i] (dueTo js l i)) := by show _ = _; rw [← hxg]; rfl
      have hout : ∀ a ∈ dueTo js l i, a < js.length := fun a ha => hl a (dueTo_mem hik ha)
      clear hxg
      have HCB := Lib.hid hcb
      generalize dueTo js l i = out0 at *
      have hol1 : out0.length ≤ i := by omega
      have hol2 : i ≤ out0.length := by omega
      clear hol hcb
      generalize l[i] = xn at *
      obtain ⟨xv, hxv⟩ : ∃ xv : Int, Hid (xv = (xn : Int)) := ⟨_, rfl⟩
      obtain ⟨wo, rfl⟩ : ∃ wo : World, wo = wr := ⟨_, rfl⟩
      go_wp2
      go_loopw [7] (fun kv wi => ∃ k : Nat, k ≤ i ∧ kv = .int .i64 (k : Int) ∧ Hid (Below wo.heap.size wo wi) ∧ Hid (∀ a ∈ out0.take k, soonB js a xn = true)) (fun kv _ => i - (intOf kv).toNat)
      case atStart => exact ⟨0, Nat.zero_le _, rfl, Below.refl _ _, fun a h => by cases h⟩
      case round =>
        obtain ⟨k, hk, rfl, HB, HG⟩ := hrel
        have HRow := Lib.hid ((Row.of_own HO.out).below HB.out)
        have hcb : wr.cell? (bd.add i) = some (.int .i64 xv) := by
          rw [hxv.out]
          have hbb := lt_of_cell HCB.out
          exact ((HW.out.trans (HB.out.mono HW.out.size)).cell (p := bd.add i) hbb).trans HCB.out
        by_cases hki : k < i
        · have hko : k < out0.length := by omega
          have hk0 : (0 : Int) ≤ k := by omega
          have hk1 : (k : Int) < i := by omega
          obtain ⟨ad', hA', hc0⟩ := HRow.out.nat hko
          injection hA' with hA'
          subst hA'
          have dk : decide (k < i) = true := decide_eq_true hki
          have hx0 := hout _ (List.getElem_mem hko)
          have HSN : Hid (∀ m, Calls Tryd.prog 177 #[.slice A js.length c, .int .i64 (out0[k] : Int), .int .i64 xv] (wr.drewN m) fun e w' => e = .returned (.bool (soonB js out0[k] xn)) ∧ ∃ n, w' = (wr.drewN m).drewN n) := fun m => by
            rw [hxv.out]
            exact l6Sooner_any A c js (wr.drewN m) ((hr.below (HW.out.trans (HB.out.mono HW.out.size))).drewN m) out0[k] xn hx0 hxl
          cases hsn : soonB js out0[k] xn
          · have HF := Lib.hid (HINS.out.trans (insD_at js xn out0 k (by omega) HG.out (fun _ => hsn)))
            rw [hsn] at HSN
            generalize out0[k] = x0 at *
            clear hx0 hsn hout
            go_wp2
            go_quiet ((go_at_call 177; first | exact Calls.quiet_of (HSN.out _) | exact quiet_in (HSN.out _)))
            go_wp2
            generalize hw1 : wr.drewN nq = w1
            have HRW : Hid (Row w1 (some ad) (ic (natI out0))) := by rw [← hw1]; exact HRow.out.drewN _
            have hbw1 : Below wo.heap.size wo w1 := by rw [← hw1]; exact below_drewN HB.out _
            have HBW := Lib.hid (HW.out.trans (hbw1.mono HW.out.size))
            have hbbl : bd.block < w1.heap.size := by have h1 := lt_of_cell hcb; rw [add_block] at h1; rw [← hw1]; exact h1
            have hcb : w1.cell? (bd.add i) = some (.int .i64 xv) := by rw [← hw1]; exact hcb
            have hcc : i ≤ cc := (slice_some HO.out).2
            have HF2 : Hid (ic ((natI out0).take k ++ [xv] ++ (natI out0).drop k) = ic (natI (dueTo js l (i + 1)))) := by show _ = _; rw [HF.out, hxv.out]; unfold natI; simp
            have hoL : (natI out0).length = out0.length := by unfold natI; simp
            generalize natI out0 = out at *
            have hol1 : out.length ≤ i := by omega
            have hol2 : i ≤ out.length := by omega
            clear hw1 hbw1 hoL HF HINS HG
            refine wp_region_detG (by kernel_rfl) (fun x L w' => Below w1.heap.size w1 w' ∧ (L.getD 0 true = true → L.getD 4 true = false → w'.ownsRow w1.heap.size 3 1 (.slice (some ⟨x.1, 0, none⟩) 0 0) 0 []) ∧ (L.getD 4 true = true → L.getD 10 true = false → w'.ownsRow w1.heap.size 3 1 x.2.1 k (ic (out.take k))) ∧ (L.getD 9 true = true → L.getD 10 true = false → BlockIs w' x.2.2.1 3 #[.int .i64 xv]) ∧ (L.getD 10 true = true → L.getD 14 true = false → w'.ownsRow w1.heap.size 3 1 x.2.2.2.1 (k + 1) (ic (out.take k ++ [xv]))) ∧ (L.getD 14 true = true → L.getD 10 true = true ∧ w'.ownsRow w1.heap.size 3 1 x.2.2.2.2 (i + 1) (ic (out.take k ++ [xv] ++ out.drop k))) ∧ (L.getD 10 true = true → L.getD 4 true = true))
              (fun x kk => #[.slice (some ⟨x.1, 0, none⟩) 0 0, .slice (some ad) i cc, .int .i64 (k : Int), .slice (some ad) k cc, x.2.1, .slice (some bd) l.length d, .int .i64 (i : Int), .pointer (some (bd.add i)), .int .i64 xv, .slice (some ⟨x.2.2.1, 0, none⟩) 1 1, x.2.2.2.1, .slice (some ad) i cc, .int .i64 (k : Int), .slice (some (tailAd ad k cc)) (i - k) (cc - k), x.2.2.2.2, x.2.2.2.2].getD kk undef) (0, undef, 0, undef, undef) (by kernel_rfl) (by kernel_rfl) ⟨(Below.refl _ _).drew, (fun h => by cases h), (fun h => by cases h), (fun h => by cases h), (fun h => by cases h), (fun h => by cases h), fun h => by cases h⟩ ?_ ?_
            · intro x L tm w' hall hS hsz hlow hval
              have ht : tm = #[.slice A js.length c, .slice (some bd) l.length d, undef, undef, .slice none 0 0, x.2.2.2.2, .int .i64 (i : Int), .int .i64 (k : Int), .slice (some ⟨w.heap.size, 0, none⟩) 0 0, .int .i64 (i : Int), .slice (some bd) l.length d, .int .i64 (l.length : Int), .bool true, u13, u14, .int .i64 (k : Int), .slice (some ad) i cc, .int .i64 (i : Int), .bool true, .bool true, .slice A js.length c, .slice (some ad) i cc, .int .i64 (k : Int), .pointer (some (ad.add k)), .int .i64 (x0 : Int), .slice (some bd) l.length d, .int .i64 (i : Int), .pointer (some (bd.add i)), .int .i64 xv, .bool false, .bool false, u31, u32, .slice (some ⟨x.1, 0, none⟩) 0 0, .slice (some ad) i cc, .int .i64 (k : Int), .slice (some ad) k cc, x.2.1, .slice (some bd) l.length d, .int .i64 (i : Int), .pointer (some (bd.add i)), .int .i64 xv, .slice (some ⟨x.2.2.1, 0, none⟩) 1 1, x.2.2.2.1, .slice (some ad) i cc, .int .i64 (k : Int), .slice (some (tailAd ad k cc)) (i - k) (cc - k), x.2.2.2.2, undef] := by
                refine arr_of _ _ hsz fun t ht => ?_
                have ht' : t < 49 := ht
                rcases (by omega : t = 0 ∨ t = 1 ∨ t = 2 ∨ t = 3 ∨ t = 4 ∨ t = 5 ∨ t = 6 ∨ t = 7 ∨ t = 8 ∨ t = 9 ∨ t = 10 ∨ t = 11 ∨ t = 12 ∨ t = 13 ∨ t = 14 ∨ t = 15 ∨ t = 16 ∨ t = 17 ∨ t = 18 ∨ t = 19 ∨ t = 20 ∨ t = 21 ∨ t = 22 ∨ t = 23 ∨ t = 24 ∨ t = 25 ∨ t = 26 ∨ t = 27 ∨ t = 28 ∨ t = 29 ∨ t = 30 ∨ t = 31 ∨ t = 32 ∨ t = 33 ∨ t = 34 ∨ t = 35 ∨ t = 36 ∨ t = 37 ∨ t = 38 ∨ t = 39 ∨ t = 40 ∨ t = 41 ∨ t = 42 ∨ t = 43 ∨ t = 44 ∨ t = 45 ∨ t = 46 ∨ t = 47 ∨ t = 48) with rfl | rfl | rfl | rfl | rfl | rfl | rfl | rfl | rfl | rfl | rfl | rfl | rfl | rfl | rfl | rfl | rfl | rfl | rfl | rfl | rfl | rfl | rfl | rfl | rfl | rfl | rfl | rfl | rfl | rfl | rfl | rfl | rfl | rfl | rfl | rfl | rfl | rfl | rfl | rfl | rfl | rfl | rfl | rfl | rfl | rfl | rfl | rfl | rfl
                · exact hlow 0 (by kernel_rfl)
                · exact hlow 1 (by kernel_rfl)
                · exact hlow 2 (by kernel_rfl)
                · exact hlow 3 (by kernel_rfl)
                · exact hlow 4 (by kernel_rfl)
                · exact hval 15 _ 5 rfl rfl
                · exact hlow 6 (by kernel_rfl)
                · exact hlow 7 (by kernel_rfl)
                · exact hlow 8 (by kernel_rfl)
                · exact hlow 9 (by kernel_rfl)
                · exact hlow 10 (by kernel_rfl)
                · exact hlow 11 (by kernel_rfl)
                · exact hlow 12 (by kernel_rfl)
                · exact hlow 13 (by kernel_rfl)
                · exact hlow 14 (by kernel_rfl)
                · exact hlow 15 (by kernel_rfl)
                · exact hlow 16 (by kernel_rfl)
                · exact hlow 17 (by kernel_rfl)
                · exact hlow 18 (by kernel_rfl)
                · exact hlow 19 (by kernel_rfl)
                · exact hlow 20 (by kernel_rfl)
                · exact hlow 21 (by kernel_rfl)
                · exact hlow 22 (by kernel_rfl)
                · exact hlow 23 (by kernel_rfl)
                · exact hlow 24 (by kernel_rfl)
                · exact hlow 25 (by kernel_rfl)
                · exact hlow 26 (by kernel_rfl)
                · exact hlow 27 (by kernel_rfl)
                · exact hlow 28 (by kernel_rfl)
                · exact hlow 29 (by kernel_rfl)
                · exact hlow 30 (by kernel_rfl)
                · exact hlow 31 (by kernel_rfl)
                · exact hlow 32 (by kernel_rfl)
                · exact hval 0 _ 33 rfl rfl
                · exact hval 1 _ 34 rfl rfl
                · exact hval 2 _ 35 rfl rfl
                · exact hval 3 _ 36 rfl rfl
                · exact hval 4 _ 37 rfl rfl
                · exact hval 5 _ 38 rfl rfl
                · exact hval 6 _ 39 rfl rfl
                · exact hval 7 _ 40 rfl rfl
                · exact hval 8 _ 41 rfl rfl
                · exact hval 9 _ 42 rfl rfl
                · exact hval 10 _ 43 rfl rfl
                · exact hval 11 _ 44 rfl rfl
                · exact hval 12 _ 45 rfl rfl
                · exact hval 13 _ 46 rfl rfl
                · exact hval 14 _ 47 rfl rfl
                · exact hlow 48 (by kernel_rfl)
              subst ht
              clear hlow hval hsz
              obtain ⟨hbz, _, _, _, _, hS5, _⟩ := hS
              have hfin := (hS5 (hall 14 (by decide))).2
              have HO4 := Lib.hid (And.intro hfin hbz)
              clear hS5 hbz hall hfin
              obtain ⟨g4, _, ⟨c4, hx4⟩, _⟩ := own_block2S HO4.out.1 (by omega)
              generalize x.2.2.2.2 = y4 at *
              subst hx4
              rw [HF2.out] at HO4
              clear HF2
              go_wp2
              go_roundw
              case rel => exact ⟨i + 1, ⟨g4, 0, none⟩, c4, by omega, rfl, by go_num, own_lower HO4.out.1 HBW.out.size, HBW.out.trans (HO4.out.2.mono HBW.out.size)⟩
              case measure => simp [intOf]; omega
            · intro x L a w' kk op hLs ho hLi hLd hLn ⟨hS0, hS1, hS2, hS3, hS4, hS5, hS6⟩ hlow hdep hold
              have hkk : kk < 16 := (Array.getElem?_eq_some_iff.1 ho).1
              have l1 : a.tmps[1]?.getD undef = .slice (some bd) l.length d := by rw [← Array.getD_eq_getD_getElem?]; exact hlow 1 (by kernel_rfl)
              have l6 : a.tmps[6]?.getD undef = .int .i64 (i : Int) := by rw [← Array.getD_eq_getD_getElem?]; exact hlow 6 (by kernel_rfl)
              have l7 : a.tmps[7]?.getD undef = .int .i64 (k : Int) := by rw [← Array.getD_eq_getD_getElem?]; exact hlow 7 (by kernel_rfl)
              have D : ∀ j oj d, edgeB _ kk j = true → _ → _ → a.tmps[d]?.getD undef = _ := fun j oj d h1 h2 h3 => (Array.getD_eq_getD_getElem? ..).symm.trans (hdep j oj d h1 h2 h3)
              have K : ∀ {kk : Nat}, kk ≠ 0 → kk ≠ 4 → kk ≠ 9 → kk ≠ 10 → kk ≠ 14 → Below w1.heap.size w1 w' ∧ ((L.setIfInBounds kk true).getD 0 true = true → (L.setIfInBounds kk true).getD 4 true = false → w'.ownsRow w1.heap.size 3 1 (.slice (some ⟨x.1, 0, none⟩) 0 0) 0 []) ∧ ((L.setIfInBounds kk true).getD 4 true = true → (L.setIfInBounds kk true).getD 10 true = false → w'.ownsRow w1.heap.size 3 1 x.2.1 k (ic (out.take k))) ∧ ((L.setIfInBounds kk true).getD 9 true = true → (L.setIfInBounds kk true).getD 10 true = false → BlockIs w' x.2.2.1 3 #[.int .i64 xv]) ∧ ((L.setIfInBounds kk true).getD 10 true = true → (L.setIfInBounds kk true).getD 14 true = false → w'.ownsRow w1.heap.size 3 1 x.2.2.2.1 (k + 1) (ic (out.take k ++ [xv]))) ∧ ((L.setIfInBounds kk true).getD 14 true = true → (L.setIfInBounds kk true).getD 10 true = true ∧ w'.ownsRow w1.heap.size 3 1 x.2.2.2.2 (i + 1) (ic (out.take k ++ [xv] ++ out.drop k))) ∧ ((L.setIfInBounds kk true).getD 10 true = true → (L.setIfInBounds kk true).getD 4 true = true) := fun h0 h4 h6 h7 h11 => ⟨hS0, by rw [set_ne h0, set_ne h4]; exact hS1, by rw [set_ne h4, set_ne h7]; exact hS2, by rw [set_ne h6, set_ne h7]; exact hS3, by rw [set_ne h7, set_ne h11]; exact hS4, by rw [set_ne h11, set_ne h7]; exact hS5, by rw [set_ne h7, set_ne h4]; exact hS6⟩
              rcases (by omega : kk = 0 ∨ kk = 1 ∨ kk = 2 ∨ kk = 3 ∨ kk = 4 ∨ kk = 5 ∨ kk = 6 ∨ kk = 7 ∨ kk = 8 ∨ kk = 9 ∨ kk = 10 ∨ kk = 11 ∨ kk = 12 ∨ kk = 13 ∨ kk = 14 ∨ kk = 15) with rfl | rfl | rfl | rfl | rfl | rfl | rfl | rfl | rfl | rfl | rfl | rfl | rfl | rfl | rfl | rfl
              · obtain rfl := Option.some.inj ho
                refine ⟨rfl, .inl ⟨(w'.heap.size, x.2), w'.alloc (.cells #[] 3), fun j hj => ?_, by simp [execOp, Act.eval, go_sem], hS0.alloc hS0.size _, (fun _ _ => World.ownsRow_made w' #[] 0 hS0.size (by unfold maxLen; omega) rfl), (fun h => ?_), (fun h h' => ?_), (fun h => ?_), (fun h => ?_), fun h => ?_⟩⟩
                · have n0 : j ≠ 0 := fun e => by subst e; rw [hLi] at hj; cases hj
                  exact but_i0 j n0
                · rw [set_ne (by decide), hLn 4 (by kernel_rfl)] at h; cases h
                · rw [set_ne (by decide)] at h h'; exact (hS3 h h').below ((Below.refl _ _).alloc (Nat.le_refl _) _)
                · rw [set_ne (by decide)] at h; have h4 := hS6 h; rw [hLn 4 (by kernel_rfl)] at h4; cases h4
                · rw [set_ne (by decide)] at h; have h4 := hS6 (hS5 h).1; rw [hLn 4 (by kernel_rfl)] at h4; cases h4
                · rw [set_ne (by decide)] at h ⊢; exact hS6 h
              · obtain rfl := Option.some.inj ho
                have l5 : a.tmps[5]?.getD undef = .slice (some ad) i cc := (Array.getD_eq_getD_getElem? ..).symm.trans (hold 15 _ 5 (by kernel_rfl) rfl rfl)
                exact ⟨rfl, .inl ⟨x, w', fun _ _ => rfl, by simp [execOp, Act.eval, l5, go_sem], K (by decide) (by decide) (by decide) (by decide) (by decide)⟩⟩
              · obtain rfl := Option.some.inj ho
                exact ⟨rfl, .inl ⟨x, w', fun _ _ => rfl, by simp [execOp, Act.eval, l7, go_sem], K (by decide) (by decide) (by decide) (by decide) (by decide)⟩⟩
              · obtain rfl := Option.some.inj ho
                have e34 : a.tmps[34]?.getD undef = .slice (some ad) i cc := D 1 _ 34 (by kernel_rfl) rfl rfl
                have e35 : a.tmps[35]?.getD undef = .int .i64 (k : Int) := D 2 _ 35 (by kernel_rfl) rfl rfl
                have x1 : a.eval (.tmp 34) = .slice (some ad) i cc := by simp [Act.eval, e34]
                have x2 : a.eval (.tmp 35) = .int .i64 (k : Int) := by simp [Act.eval, e35]
                have hsl : (Instr.sliceAt 23 (a.eval (.tmp 34)) none ((some (Operand.tmp 35)).map a.eval) none).run Tryd.prog w' = .ok (.slice (some ad) k cc) w' := by
                  rw [x1, Option.map_some, x2]; exact slice_h ad _ cc k w' (by omega)
                exact ⟨rfl, .inl ⟨x, w', fun _ _ => rfl, exec_slice rfl hsl, K (by decide) (by decide) (by decide) (by decide) (by decide)⟩⟩
              · obtain rfl := Option.some.inj ho
                have e33 : a.tmps[33]?.getD undef = .slice (some ⟨x.1, 0, none⟩) 0 0 := D 0 _ 33 (by kernel_rfl) rfl rfl
                have e36 : a.tmps[36]?.getD undef = .slice (some ad) k cc := D 3 _ 36 (by kernel_rfl) rfl rfl
                have x1 : a.eval (.tmp 33) = .slice (some ⟨x.1, 0, none⟩) 0 0 := by simp [Act.eval, e33]
                have x2 : a.eval (.tmp 36) = .slice (some ad) k cc := by simp [Act.eval, e36]
                have hown := hS1 (hLd 0 (by kernel_rfl)) hLi
                obtain ⟨v', w'', hrun, hown', hgrow, hnil⟩ := run_append_own (P := Tryd.prog) w' w1.heap.size 23 23 3 i0 (.int .i64 0) 1 8 Tryd.underlying23 hi hz0 hz1 hz2 rfl (by decide) (.slice (some ⟨x.1, 0, none⟩) 0 0) 0 _ hown ad k cc (ic (out.take k)) (by rw [ic_len]; simp; omega) (head_srcS (HRW.out.below hS0)) ic_one (by unfold maxLen; omega) (by omega) hS0.size
                have hbz : Below w1.heap.size w1 w'' := hS0.grown hgrow hS0.size (fun b hb => (hown.lt b hb).1)
                refine ⟨rfl, .inl ⟨(x.1, v', x.2.2), w'', fun j hj => ?_, exec_append rfl x1 x2 hrun, hbz, (fun _ h => ?_), (fun _ _ => ?_), (fun h h' => ?_), (fun h => ?_), (fun h => ?_), fun _ => ?_⟩⟩
                · have n4 : j ≠ 4 := fun e => by subst e; rw [hLi] at hj; cases hj
                  exact but_i4 j n4
                · rw [set_eq (by rw [hLs]; decide)] at h; cases h
                · rw [List.nil_append, Nat.zero_add] at hown'; exact hown'
                · rw [set_ne (by decide)] at h h'
                  have hB := hS3 h h'
                  refine (hgrow.block _ hB.lt fun e => ?_).trans hB
                  have eg : x.1 = x.2.2.1 := (Option.some.inj e).symm
                  exact empty_neS hown (eg ▸ hB)
                · rw [set_ne (by decide), hLn 10 (by kernel_rfl)] at h; cases h
                · rw [set_ne (by decide)] at h; have h9 := (hS5 h).1; rw [hLn 10 (by kernel_rfl)] at h9; cases h9
                · rw [set_eq (by rw [hLs]; decide)]
              · obtain rfl := Option.some.inj ho
                exact ⟨rfl, .inl ⟨x, w', fun _ _ => rfl, by simp [execOp, Act.eval, l1, go_sem], K (by decide) (by decide) (by decide) (by decide) (by decide)⟩⟩
              · obtain rfl := Option.some.inj ho
                exact ⟨rfl, .inl ⟨x, w', fun _ _ => rfl, by simp [execOp, Act.eval, l6, go_sem], K (by decide) (by decide) (by decide) (by decide) (by decide)⟩⟩
              · obtain rfl := Option.some.inj ho
                have e38 : a.tmps[38]?.getD undef = .slice (some bd) l.length d := D 5 _ 38 (by kernel_rfl) rfl rfl
                have e39 : a.tmps[39]?.getD undef = .int .i64 (i : Int) := D 6 _ 39 (by kernel_rfl) rfl rfl
                exact ⟨rfl, .inl ⟨x, w', fun _ _ => rfl, by simp [execOp, Act.eval, e38, e39, hi0, hi1, go_sem], K (by decide) (by decide) (by decide) (by decide) (by decide)⟩⟩
              · obtain rfl := Option.some.inj ho
                have e40 : a.tmps[40]?.getD undef = .pointer (some (bd.add i)) := D 7 _ 40 (by kernel_rfl) rfl rfl
                have hcw : w'.cell? (bd.add i) = some (.int .i64 xv) := (hS0.cell (p := bd.add i) (by rw [add_block]; exact hbbl)).trans hcb
                exact ⟨rfl, .inl ⟨x, w', fun _ _ => rfl, by simp [execOp, Act.eval, e40, hcw, go_sem], K (by decide) (by decide) (by decide) (by decide) (by decide)⟩⟩
              · obtain rfl := Option.some.inj ho
                have e41 : a.tmps[41]?.getD undef = .int .i64 xv := D 8 _ 41 (by kernel_rfl) rfl rfl
                refine ⟨rfl, .inl ⟨(x.1, x.2.1, w'.heap.size, x.2.2.2), w'.alloc (.cells #[.int .i64 xv] 3), fun j hj => ?_, by simp [execOp, Act.eval, e41, go_sem], hS0.alloc hS0.size _, (fun h h' => ?_), (fun h h' => ?_), (fun _ _ => BlockIs.new _ _ _), (fun h => ?_), (fun h => ?_), fun h => ?_⟩⟩
                · have n6 : j ≠ 9 := fun e => by subst e; rw [hLi] at hj; cases hj
                  exact but_i9 j n6
                · rw [set_ne (by decide)] at h h'; exact (hS1 h h').alloc _
                · rw [set_ne (by decide)] at h h'; exact (hS2 h h').alloc _
                · rw [set_ne (by decide), hLn 10 (by kernel_rfl)] at h; cases h
                · rw [set_ne (by decide)] at h; have h9 := (hS5 h).1; rw [hLn 10 (by kernel_rfl)] at h9; cases h9
                · rw [set_ne (by decide)] at h ⊢; exact hS6 h
              · obtain rfl := Option.some.inj ho
                have e37 : a.tmps[37]?.getD undef = x.2.1 := D 4 _ 37 (by kernel_rfl) rfl rfl
                have e42 : a.tmps[42]?.getD undef = .slice (some ⟨x.2.2.1, 0, none⟩) 1 1 := D 9 _ 42 (by kernel_rfl) rfl rfl
                have x1 : a.eval (.tmp 37) = x.2.1 := by simp [Act.eval, e37]
                have x2 : a.eval (.tmp 42) = .slice (some ⟨x.2.2.1, 0, none⟩) 1 1 := by simp [Act.eval, e42]
                have hown := hS2 (hLd 4 (by kernel_rfl)) hLi
                have hB8 := hS3 (hLd 9 (by kernel_rfl)) hLi
                have hsrc : ∀ j u, (ic [xv])[j]? = some u → w'.cell? ((⟨x.2.2.1, 0, none⟩ : Addr).add j) = some u := fun j u hu => by rw [Addr.add_lit, Nat.zero_add, hB8.cell, ← Array.getElem?_toList]; exact hu
                obtain ⟨v', w'', hrun, hown', hgrow, hnil⟩ := run_append_own (P := Tryd.prog) w' w1.heap.size 23 23 3 i0 (.int .i64 0) 1 8 Tryd.underlying23 hi hz0 hz1 hz2 rfl (by decide) x.2.1 k _ hown ⟨x.2.2.1, 0, none⟩ 1 1 (ic [xv]) rfl hsrc ic_one (by unfold maxLen; omega) (by omega) hS0.size
                have hbz : Below w1.heap.size w1 w'' := hS0.grown hgrow hS0.size (fun b hb => (hown.lt b hb).1)
                refine ⟨rfl, .inl ⟨(x.1, x.2.1, x.2.2.1, v', x.2.2.2.2), w'', fun j hj => ?_, exec_append rfl x1 x2 hrun, hbz, (fun h h' => ?_), (fun _ h => ?_), (fun _ h => ?_), (fun _ _ => ?_), (fun h => ?_), fun _ => ?_⟩⟩
                · have n7 : j ≠ 10 := fun e => by subst e; rw [hLi] at hj; cases hj
                  exact but_i10 j n7
                · rw [set_ne (by decide)] at h'; have h9 := hLd 4 (by kernel_rfl); rw [h9] at h'; cases h'
                · rw [set_eq (by rw [hLs]; decide)] at h; cases h
                · rw [set_eq (by rw [hLs]; decide)] at h; cases h
                · have hx : ic (out.take k) ++ ic [xv] = ic (out.take k ++ [xv]) := by unfold ic; simp
                  rw [hx] at hown'; exact hown'
                · rw [set_ne (by decide), hLn 14 (by kernel_rfl)] at h; cases h
                · rw [set_ne (by decide)]; exact hLd 4 (by kernel_rfl)
              · obtain rfl := Option.some.inj ho
                have l5 : a.tmps[5]?.getD undef = .slice (some ad) i cc := (Array.getD_eq_getD_getElem? ..).symm.trans (hold 15 _ 5 (by kernel_rfl) rfl rfl)
                exact ⟨rfl, .inl ⟨x, w', fun _ _ => rfl, by simp [execOp, Act.eval, l5, go_sem], K (by decide) (by decide) (by decide) (by decide) (by decide)⟩⟩
              · obtain rfl := Option.some.inj ho
                exact ⟨rfl, .inl ⟨x, w', fun _ _ => rfl, by simp [execOp, Act.eval, l7, go_sem], K (by decide) (by decide) (by decide) (by decide) (by decide)⟩⟩
              · obtain rfl := Option.some.inj ho
                have e44 : a.tmps[44]?.getD undef = .slice (some ad) i cc := D 11 _ 44 (by kernel_rfl) rfl rfl
                have e45 : a.tmps[45]?.getD undef = .int .i64 (k : Int) := D 12 _ 45 (by kernel_rfl) rfl rfl
                have x1 : a.eval (.tmp 44) = .slice (some ad) i cc := by simp [Act.eval, e44]
                have x2 : a.eval (.tmp 45) = .int .i64 (k : Int) := by simp [Act.eval, e45]
                have hsl : (Instr.sliceAt 23 (a.eval (.tmp 44)) ((some (Operand.tmp 45)).map a.eval) none none).run Tryd.prog w' = .ok (.slice (some (tailAd ad k cc)) (i - k) (cc - k)) w' := by
                  rw [x1, Option.map_some, x2]; exact slice_l ad _ cc k w' (by omega)
                exact ⟨rfl, .inl ⟨x, w', fun _ _ => rfl, exec_slice rfl hsl, K (by decide) (by decide) (by decide) (by decide) (by decide)⟩⟩
              · obtain rfl := Option.some.inj ho
                have e43 : a.tmps[43]?.getD undef = x.2.2.2.1 := D 10 _ 43 (by kernel_rfl) rfl rfl
                have e46 : a.tmps[46]?.getD undef = .slice (some (tailAd ad k cc)) (i - k) (cc - k) := D 13 _ 46 (by kernel_rfl) rfl rfl
                have x1 : a.eval (.tmp 43) = x.2.2.2.1 := by simp [Act.eval, e43]
                have x2 : a.eval (.tmp 46) = .slice (some (tailAd ad k cc)) (i - k) (cc - k) := by simp [Act.eval, e46]
                have t9 : L.getD 10 true = true := hLd 10 (by kernel_rfl)
                have hown := hS4 t9 hLi
                obtain ⟨v', w'', hrun, hown', hgrow, hnil⟩ := run_append_own (P := Tryd.prog) w' w1.heap.size 23 23 3 i0 (.int .i64 0) 1 8 Tryd.underlying23 hi hz0 hz1 hz2 rfl (by decide) x.2.2.2.1 (k + 1) _ hown (tailAd ad k cc) (i - k) (cc - k) (ic (out.drop k)) (by rw [ic_len]; simp; omega) (tail_src (HRW.out.below hS0) (by omega)) ic_one (by unfold maxLen; omega) (by omega) hS0.size
                have hbz : Below w1.heap.size w1 w'' := hS0.grown hgrow hS0.size (fun b hb => (hown.lt b hb).1)
                refine ⟨rfl, .inl ⟨(x.1, x.2.1, x.2.2.1, x.2.2.2.1, v'), w'', fun j hj => ?_, exec_append rfl x1 x2 hrun, hbz, (fun h h' => ?_), (fun _ h => ?_), (fun _ h => ?_), (fun _ h => ?_), (fun _ => ?_), fun _ => ?_⟩⟩
                · have n11 : j ≠ 14 := fun e => by subst e; rw [hLi] at hj; cases hj
                  have f12 : L.getD 15 true = false := hLn 15 (by kernel_rfl)
                  have n12 : j ≠ 15 := fun e => by subst e; rw [f12] at hj; cases hj
                  exact but_i14 j n11 n12
                · rw [set_ne (by decide), hS6 t9] at h'; cases h'
                · rw [set_ne (by decide), t9] at h; cases h
                · rw [set_ne (by decide), t9] at h; cases h
                · rw [set_eq (by rw [hLs]; decide)] at h; cases h
                · have hx : ic (out.take k ++ [xv]) ++ ic (out.drop k) = ic (out.take k ++ [xv] ++ out.drop k) := by unfold ic; simp
                  rw [hx, show k + 1 + (i - k) = i + 1 by omega] at hown'; exact ⟨by rw [set_ne (by decide)]; exact t9, hown'⟩
                · rw [set_ne (by decide)]; exact hS6 t9
              · obtain rfl := Option.some.inj ho
                have e47 : a.tmps[47]?.getD undef = x.2.2.2.2 := D 14 _ 47 (by kernel_rfl) rfl rfl
                exact ⟨rfl, .inl ⟨x, w', fun _ _ => rfl, by simp [execOp, Act.eval, e47, go_sem], K (by decide) (by decide) (by decide) (by decide) (by decide)⟩⟩
          · have HG2 : Hid (∀ a ∈ out0.take (k + 1), soonB js a xn = true) := fun a ha => by
              rw [List.take_succ_eq_append_getElem hko] at ha
              rcases List.mem_append.1 ha with h | h
              · exact HG.out a h
              · rw [List.mem_singleton.1 h]; exact hsn
            rw [hsn] at HSN
            generalize out0[k] = x0 at *
            clear hx0 hsn hout
            go_wp2
            go_quiet ((go_at_call 177; first | exact Calls.quiet_of (HSN.out _) | exact quiet_in (HSN.out _)))
            all_goals
              go_wp2
              go_roundw
              case rel => exact ⟨k + 1, by omega, by go_num, below_drewN HB.out _, HG2.out⟩
              case measure => simp [intOf]; omega
        · have hki2 : i ≤ k := by omega
          have HF := Lib.hid (HINS.out.trans (insD_at js xn out0 k (by omega) HG.out (fun h => by omega)))
          have dk : decide (k < i) = false := decide_eq_false hki
          go_wp2
          go_quiet (fail)
          go_wp2
          generalize hw1 : wr.drewN nq = w1
          have HRW : Hid (Row w1 (some ad) (ic (natI out0))) := by rw [← hw1]; exact HRow.out.drewN _
          have hbw1 : Below wo.heap.size wo w1 := by rw [← hw1]; exact below_drewN HB.out _
          have HBW := Lib.hid (HW.out.trans (hbw1.mono HW.out.size))
          have hbbl : bd.block < w1.heap.size := by have h1 := lt_of_cell hcb; rw [add_block] at h1; rw [← hw1]; exact h1
          have hcb : w1.cell? (bd.add i) = some (.int .i64 xv) := by rw [← hw1]; exact hcb
          have hcc : i ≤ cc := (slice_some HO.out).2
          have HF2 : Hid (ic ((natI out0).take k ++ [xv] ++ (natI out0).drop k) = ic (natI (dueTo js l (i + 1)))) := by show _ = _; rw [HF.out, hxv.out]; unfold natI; simp
          have hoL : (natI out0).length = out0.length := by unfold natI; simp
          generalize natI out0 = out at *
          have hol1 : out.length ≤ i := by omega
          have hol2 : i ≤ out.length := by omega
          clear hw1 hbw1 hoL HF HINS HG
          refine wp_region_detG (by kernel_rfl) (fun x L w' => Below w1.heap.size w1 w' ∧ (L.getD 0 true = true → L.getD 4 true = false → w'.ownsRow w1.heap.size 3 1 (.slice (some ⟨x.1, 0, none⟩) 0 0) 0 []) ∧ (L.getD 4 true = true → L.getD 10 true = false → w'.ownsRow w1.heap.size 3 1 x.2.1 k (ic (out.take k))) ∧ (L.getD 9 true = true → L.getD 10 true = false → BlockIs w' x.2.2.1 3 #[.int .i64 xv]) ∧ (L.getD 10 true = true → L.getD 14 true = false → w'.ownsRow w1.heap.size 3 1 x.2.2.2.1 (k + 1) (ic (out.take k ++ [xv]))) ∧ (L.getD 14 true = true → L.getD 10 true = true ∧ w'.ownsRow w1.heap.size 3 1 x.2.2.2.2 (i + 1) (ic (out.take k ++ [xv] ++ out.drop k))) ∧ (L.getD 10 true = true → L.getD 4 true = true))
            (fun x kk => #[.slice (some ⟨x.1, 0, none⟩) 0 0, .slice (some ad) i cc, .int .i64 (k : Int), .slice (some ad) k cc, x.2.1, .slice (some bd) l.length d, .int .i64 (i : Int), .pointer (some (bd.add i)), .int .i64 xv, .slice (some ⟨x.2.2.1, 0, none⟩) 1 1, x.2.2.2.1, .slice (some ad) i cc, .int .i64 (k : Int), .slice (some (tailAd ad k cc)) (i - k) (cc - k), x.2.2.2.2, x.2.2.2.2].getD kk undef) (0, undef, 0, undef, undef) (by kernel_rfl) (by kernel_rfl) ⟨(Below.refl _ _).drew, (fun h => by cases h), (fun h => by cases h), (fun h => by cases h), (fun h => by cases h), (fun h => by cases h), fun h => by cases h⟩ ?_ ?_
          · intro x L tm w' hall hS hsz hlow hval
            have ht : tm = #[.slice A js.length c, .slice (some bd) l.length d, undef, undef, .slice none 0 0, x.2.2.2.2, .int .i64 (i : Int), .int .i64 (k : Int), .slice (some ⟨w.heap.size, 0, none⟩) 0 0, .int .i64 (i : Int), .slice (some bd) l.length d, .int .i64 (l.length : Int), .bool true, u13, u14, .int .i64 (k : Int), .slice (some ad) i cc, .int .i64 (i : Int), .bool false, .bool false, undef, undef, undef, undef, undef, undef, undef, undef, undef, undef, .bool false, u31, u32, .slice (some ⟨x.1, 0, none⟩) 0 0, .slice (some ad) i cc, .int .i64 (k : Int), .slice (some ad) k cc, x.2.1, .slice (some bd) l.length d, .int .i64 (i : Int), .pointer (some (bd.add i)), .int .i64 xv, .slice (some ⟨x.2.2.1, 0, none⟩) 1 1, x.2.2.2.1, .slice (some ad) i cc, .int .i64 (k : Int), .slice (some (tailAd ad k cc)) (i - k) (cc - k), x.2.2.2.2, undef] := by
              refine arr_of _ _ hsz fun t ht => ?_
              have ht' : t < 49 := ht
              rcases (by omega : t = 0 ∨ t = 1 ∨ t = 2 ∨ t = 3 ∨ t = 4 ∨ t = 5 ∨ t = 6 ∨ t = 7 ∨ t = 8 ∨ t = 9 ∨ t = 10 ∨ t = 11 ∨ t = 12 ∨ t = 13 ∨ t = 14 ∨ t = 15 ∨ t = 16 ∨ t = 17 ∨ t = 18 ∨ t = 19 ∨ t = 20 ∨ t = 21 ∨ t = 22 ∨ t = 23 ∨ t = 24 ∨ t = 25 ∨ t = 26 ∨ t = 27 ∨ t = 28 ∨ t = 29 ∨ t = 30 ∨ t = 31 ∨ t = 32 ∨ t = 33 ∨ t = 34 ∨ t = 35 ∨ t = 36 ∨ t = 37 ∨ t = 38 ∨ t = 39 ∨ t = 40 ∨ t = 41 ∨ t = 42 ∨ t = 43 ∨ t = 44 ∨ t = 45 ∨ t = 46 ∨ t = 47 ∨ t = 48) with rfl | rfl | rfl | rfl | rfl | rfl | rfl | rfl | rfl | rfl | rfl | rfl | rfl | rfl | rfl | rfl | rfl | rfl | rfl | rfl | rfl | rfl | rfl | rfl | rfl | rfl | rfl | rfl | rfl | rfl | rfl | rfl | rfl | rfl | rfl | rfl | rfl | rfl | rfl | rfl | rfl | rfl | rfl | rfl | rfl | rfl | rfl | rfl | rfl
              · exact hlow 0 (by kernel_rfl)
              · exact hlow 1 (by kernel_rfl)
              · exact hlow 2 (by kernel_rfl)
              · exact hlow 3 (by kernel_rfl)
              · exact hlow 4 (by kernel_rfl)
              · exact hval 15 _ 5 rfl rfl
              · exact hlow 6 (by kernel_rfl)
              · exact hlow 7 (by kernel_rfl)
              · exact hlow 8 (by kernel_rfl)
              · exact hlow 9 (by kernel_rfl)
              · exact hlow 10 (by kernel_rfl)
              · exact hlow 11 (by kernel_rfl)
              · exact hlow 12 (by kernel_rfl)
              · exact hlow 13 (by kernel_rfl)
              · exact hlow 14 (by kernel_rfl)
              · exact hlow 15 (by kernel_rfl)
              · exact hlow 16 (by kernel_rfl)
              · exact hlow 17 (by kernel_rfl)
              · exact hlow 18 (by kernel_rfl)
              · exact hlow 19 (by kernel_rfl)
              · exact hlow 20 (by kernel_rfl)
              · exact hlow 21 (by kernel_rfl)
              · exact hlow 22 (by kernel_rfl)
              · exact hlow 23 (by kernel_rfl)
              · exact hlow 24 (by kernel_rfl)
              · exact hlow 25 (by kernel_rfl)
              · exact hlow 26 (by kernel_rfl)
              · exact hlow 27 (by kernel_rfl)
              · exact hlow 28 (by kernel_rfl)
              · exact hlow 29 (by kernel_rfl)
              · exact hlow 30 (by kernel_rfl)
              · exact hlow 31 (by kernel_rfl)
              · exact hlow 32 (by kernel_rfl)
              · exact hval 0 _ 33 rfl rfl
              · exact hval 1 _ 34 rfl rfl
              · exact hval 2 _ 35 rfl rfl
              · exact hval 3 _ 36 rfl rfl
              · exact hval 4 _ 37 rfl rfl
              · exact hval 5 _ 38 rfl rfl
              · exact hval 6 _ 39 rfl rfl
              · exact hval 7 _ 40 rfl rfl
              · exact hval 8 _ 41 rfl rfl
              · exact hval 9 _ 42 rfl rfl
              · exact hval 10 _ 43 rfl rfl
              · exact hval 11 _ 44 rfl rfl
              · exact hval 12 _ 45 rfl rfl
              · exact hval 13 _ 46 rfl rfl
              · exact hval 14 _ 47 rfl rfl
              · exact hlow 48 (by kernel_rfl)
            subst ht
            clear hlow hval hsz
            obtain ⟨hbz, _, _, _, _, hS5, _⟩ := hS
            have hfin := (hS5 (hall 14 (by decide))).2
            have HO4 := Lib.hid (And.intro hfin hbz)
            clear hS5 hbz hall hfin
            obtain ⟨g4, _, ⟨c4, hx4⟩, _⟩ := own_block2S HO4.out.1 (by omega)
            generalize x.2.2.2.2 = y4 at *
            subst hx4
            rw [HF2.out] at HO4
            clear HF2
            go_wp2
            go_roundw
            case rel => exact ⟨i + 1, ⟨g4, 0, none⟩, c4, by omega, rfl, by go_num, own_lower HO4.out.1 HBW.out.size, HBW.out.trans (HO4.out.2.mono HBW.out.size)⟩
            case measure => simp [intOf]; omega
          · intro x L a w' kk op hLs ho hLi hLd hLn ⟨hS0, hS1, hS2, hS3, hS4, hS5, hS6⟩ hlow hdep hold
            have hkk : kk < 16 := (Array.getElem?_eq_some_iff.1 ho).1
            have l1 : a.tmps[1]?.getD undef = .slice (some bd) l.length d := by rw [← Array.getD_eq_getD_getElem?]; exact hlow 1 (by kernel_rfl)
            have l6 : a.tmps[6]?.getD undef = .int .i64 (i : Int) := by rw [← Array.getD_eq_getD_getElem?]; exact hlow 6 (by kernel_rfl)
            have l7 : a.tmps[7]?.getD undef = .int .i64 (k : Int) := by rw [← Array.getD_eq_getD_getElem?]; exact hlow 7 (by kernel_rfl)
            have D : ∀ j oj d, edgeB _ kk j = true → _ → _ → a.tmps[d]?.getD undef = _ := fun j oj d h1 h2 h3 => (Array.getD_eq_getD_getElem? ..).symm.trans (hdep j oj d h1 h2 h3)
            have K : ∀ {kk : Nat}, kk ≠ 0 → kk ≠ 4 → kk ≠ 9 → kk ≠ 10 → kk ≠ 14 → Below w1.heap.size w1 w' ∧ ((L.setIfInBounds kk true).getD 0 true = true → (L.setIfInBounds kk true).getD 4 true = false → w'.ownsRow w1.heap.size 3 1 (.slice (some ⟨x.1, 0, none⟩) 0 0) 0 []) ∧ ((L.setIfInBounds kk true).getD 4 true = true → (L.setIfInBounds kk true).getD 10 true = false → w'.ownsRow w1.heap.size 3 1 x.2.1 k (ic (out.take k))) ∧ ((L.setIfInBounds kk true).getD 9 true = true → (L.setIfInBounds kk true).getD 10 true = false → BlockIs w' x.2.2.1 3 #[.int .i64 xv]) ∧ ((L.setIfInBounds kk true).getD 10 true = true → (L.setIfInBounds kk true).getD 14 true = false → w'.ownsRow w1.heap.size 3 1 x.2.2.2.1 (k + 1) (ic (out.take k ++ [xv]))) ∧ ((L.setIfInBounds kk true).getD 14 true = true → (L.setIfInBounds kk true).getD 10 true = true ∧ w'.ownsRow w1.heap.size 3 1 x.2.2.2.2 (i + 1) (ic (out.take k ++ [xv] ++ out.drop k))) ∧ ((L.setIfInBounds kk true).getD 10 true = true → (L.setIfInBounds kk true).getD 4 true = true) := fun h0 h4 h6 h7 h11 => ⟨hS0, by rw [set_ne h0, set_ne h4]; exact hS1, by rw [set_ne h4, set_ne h7]; exact hS2, by rw [set_ne h6, set_ne h7]; exact hS3, by rw [set_ne h7, set_ne h11]; exact hS4, by rw [set_ne h11, set_ne h7]; exact hS5, by rw [set_ne h7, set_ne h4]; exact hS6⟩
            rcases (by omega : kk = 0 ∨ kk = 1 ∨ kk = 2 ∨ kk = 3 ∨ kk = 4 ∨ kk = 5 ∨ kk = 6 ∨ kk = 7 ∨ kk = 8 ∨ kk = 9 ∨ kk = 10 ∨ kk = 11 ∨ kk = 12 ∨ kk = 13 ∨ kk = 14 ∨ kk = 15) with rfl | rfl | rfl | rfl | rfl | rfl | rfl | rfl | rfl | rfl | rfl | rfl | rfl | rfl | rfl | rfl
            · obtain rfl := Option.some.inj ho
              refine ⟨rfl, .inl ⟨(w'.heap.size, x.2), w'.alloc (.cells #[] 3), fun j hj => ?_, by simp [execOp, Act.eval, go_sem], hS0.alloc hS0.size _, (fun _ _ => World.ownsRow_made w' #[] 0 hS0.size (by unfold maxLen; omega) rfl), (fun h => ?_), (fun h h' => ?_), (fun h => ?_), (fun h => ?_), fun h => ?_⟩⟩
              · have n0 : j ≠ 0 := fun e => by subst e; rw [hLi] at hj; cases hj
                exact but_i0 j n0
              · rw [set_ne (by decide), hLn 4 (by kernel_rfl)] at h; cases h
              · rw [set_ne (by decide)] at h h'; exact (hS3 h h').below ((Below.refl _ _).alloc (Nat.le_refl _) _)
              · rw [set_ne (by decide)] at h; have h4 := hS6 h; rw [hLn 4 (by kernel_rfl)] at h4; cases h4
              · rw [set_ne (by decide)] at h; have h4 := hS6 (hS5 h).1; rw [hLn 4 (by kernel_rfl)] at h4; cases h4
              · rw [set_ne (by decide)] at h ⊢; exact hS6 h
            · obtain rfl := Option.some.inj ho
              have l5 : a.tmps[5]?.getD undef = .slice (some ad) i cc := (Array.getD_eq_getD_getElem? ..).symm.trans (hold 15 _ 5 (by kernel_rfl) rfl rfl)
              exact ⟨rfl, .inl ⟨x, w', fun _ _ => rfl, by simp [execOp, Act.eval, l5, go_sem], K (by decide) (by decide) (by decide) (by decide) (by decide)⟩⟩
            · obtain rfl := Option.some.inj ho
              exact ⟨rfl, .inl ⟨x, w', fun _ _ => rfl, by simp [execOp, Act.eval, l7, go_sem], K (by decide) (by decide) (by decide) (by decide) (by decide)⟩⟩
            · obtain rfl := Option.some.inj ho
              have e34 : a.tmps[34]?.getD undef = .slice (some ad) i cc := D 1 _ 34 (by kernel_rfl) rfl rfl
              have e35 : a.tmps[35]?.getD undef = .int .i64 (k : Int) := D 2 _ 35 (by kernel_rfl) rfl rfl
              have x1 : a.eval (.tmp 34) = .slice (some ad) i cc := by simp [Act.eval, e34]
              have x2 : a.eval (.tmp 35) = .int .i64 (k : Int) := by simp [Act.eval, e35]
              have hsl : (Instr.sliceAt 23 (a.eval (.tmp 34)) none ((some (Operand.tmp 35)).map a.eval) none).run Tryd.prog w' = .ok (.slice (some ad) k cc) w' := by
                rw [x1, Option.map_some, x2]; exact slice_h ad _ cc k w' (by omega)
              exact ⟨rfl, .inl ⟨x, w', fun _ _ => rfl, exec_slice rfl hsl, K (by decide) (by decide) (by decide) (by decide) (by decide)⟩⟩
            · obtain rfl := Option.some.inj ho
              have e33 : a.tmps[33]?.getD undef = .slice (some ⟨x.1, 0, none⟩) 0 0 := D 0 _ 33 (by kernel_rfl) rfl rfl
              have e36 : a.tmps[36]?.getD undef = .slice (some ad) k cc := D 3 _ 36 (by kernel_rfl) rfl rfl
              have x1 : a.eval (.tmp 33) = .slice (some ⟨x.1, 0, none⟩) 0 0 := by simp [Act.eval, e33]
              have x2 : a.eval (.tmp 36) = .slice (some ad) k cc := by simp [Act.eval, e36]
              have hown := hS1 (hLd 0 (by kernel_rfl)) hLi
              obtain ⟨v', w'', hrun, hown', hgrow, hnil⟩ := run_append_own (P := Tryd.prog) w' w1.heap.size 23 23 3 i0 (.int .i64 0) 1 8 Tryd.underlying23 hi hz0 hz1 hz2 rfl (by decide) (.slice (some ⟨x.1, 0, none⟩) 0 0) 0 _ hown ad k cc (ic (out.take k)) (by rw [ic_len]; simp; omega) (head_srcS (HRW.out.below hS0)) ic_one (by unfold maxLen; omega) (by omega) hS0.size
              have hbz : Below w1.heap.size w1 w'' := hS0.grown hgrow hS0.size (fun b hb => (hown.lt b hb).1)
              refine ⟨rfl, .inl ⟨(x.1, v', x.2.2), w'', fun j hj => ?_, exec_append rfl x1 x2 hrun, hbz, (fun _ h => ?_), (fun _ _ => ?_), (fun h h' => ?_), (fun h => ?_), (fun h => ?_), fun _ => ?_⟩⟩
              · have n4 : j ≠ 4 := fun e => by subst e; rw [hLi] at hj; cases hj
                exact but_i4 j n4
              · rw [set_eq (by rw [hLs]; decide)] at h; cases h
              · rw [List.nil_append, Nat.zero_add] at hown'; exact hown'
              · rw [set_ne (by decide)] at h h'
                have hB := hS3 h h'
                refine (hgrow.block _ hB.lt fun e => ?_).trans hB
                have eg : x.1 = x.2.2.1 := (Option.some.inj e).symm
                exact empty_neS hown (eg ▸ hB)
              · rw [set_ne (by decide), hLn 10 (by kernel_rfl)] at h; cases h
              · rw [set_ne (by decide)] at h; have h9 := (hS5 h).1; rw [hLn 10 (by kernel_rfl)] at h9; cases h9
              · rw [set_eq (by rw [hLs]; decide)]
            · obtain rfl := Option.some.inj ho
              exact ⟨rfl, .inl ⟨x, w', fun _ _ => rfl, by simp [execOp, Act.eval, l1, go_sem], K (by decide) (by decide) (by decide) (by decide) (by decide)⟩⟩
            · obtain rfl := Option.some.inj ho
              exact ⟨rfl, .inl ⟨x, w', fun _ _ => rfl, by simp [execOp, Act.eval, l6, go_sem], K (by decide) (by decide) (by decide) (by decide) (by decide)⟩⟩
            · obtain rfl := Option.some.inj ho
              have e38 : a.tmps[38]?.getD undef = .slice (some bd) l.length d := D 5 _ 38 (by kernel_rfl) rfl rfl
              have e39 : a.tmps[39]?.getD undef = .int .i64 (i : Int) := D 6 _ 39 (by kernel_rfl) rfl rfl
              exact ⟨rfl, .inl ⟨x, w', fun _ _ => rfl, by simp [execOp, Act.eval, e38, e39, hi0, hi1, go_sem], K (by decide) (by decide) (by decide) (by decide) (by decide)⟩⟩
            · obtain rfl := Option.some.inj ho
              have e40 : a.tmps[40]?.getD undef = .pointer (some (bd.add i)) := D 7 _ 40 (by kernel_rfl) rfl rfl
              have hcw : w'.cell? (bd.add i) = some (.int .i64 xv) := (hS0.cell (p := bd.add i) (by rw [add_block]; exact hbbl)).trans hcb
              exact ⟨rfl, .inl ⟨x, w', fun _ _ => rfl, by simp [execOp, Act.eval, e40, hcw, go_sem], K (by decide) (by decide) (by decide) (by decide) (by decide)⟩⟩
            · obtain rfl := Option.some.inj ho
              have e41 : a.tmps[41]?.getD undef = .int .i64 xv := D 8 _ 41 (by kernel_rfl) rfl rfl
              refine ⟨rfl, .inl ⟨(x.1, x.2.1, w'.heap.size, x.2.2.2), w'.alloc (.cells #[.int .i64 xv] 3), fun j hj => ?_, by simp [execOp, Act.eval, e41, go_sem], hS0.alloc hS0.size _, (fun h h' => ?_), (fun h h' => ?_), (fun _ _ => BlockIs.new _ _ _), (fun h => ?_), (fun h => ?_), fun h => ?_⟩⟩
              · have n6 : j ≠ 9 := fun e => by subst e; rw [hLi] at hj; cases hj
                exact but_i9 j n6
              · rw [set_ne (by decide)] at h h'; exact (hS1 h h').alloc _
              · rw [set_ne (by decide)] at h h'; exact (hS2 h h').alloc _
              · rw [set_ne (by decide), hLn 10 (by kernel_rfl)] at h; cases h
              · rw [set_ne (by decide)] at h; have h9 := (hS5 h).1; rw [hLn 10 (by kernel_rfl)] at h9; cases h9
              · rw [set_ne (by decide)] at h ⊢; exact hS6 h
            · obtain rfl := Option.some.inj ho
              have e37 : a.tmps[37]?.getD undef = x.2.1 := D 4 _ 37 (by kernel_rfl) rfl rfl
              have e42 : a.tmps[42]?.getD undef = .slice (some ⟨x.2.2.1, 0, none⟩) 1 1 := D 9 _ 42 (by kernel_rfl) rfl rfl
              have x1 : a.eval (.tmp 37) = x.2.1 := by simp [Act.eval, e37]
              have x2 : a.eval (.tmp 42) = .slice (some ⟨x.2.2.1, 0, none⟩) 1 1 := by simp [Act.eval, e42]
              have hown := hS2 (hLd 4 (by kernel_rfl)) hLi
              have hB8 := hS3 (hLd 9 (by kernel_rfl)) hLi
              have hsrc : ∀ j u, (ic [xv])[j]? = some u → w'.cell? ((⟨x.2.2.1, 0, none⟩ : Addr).add j) = some u := fun j u hu => by rw [Addr.add_lit, Nat.zero_add, hB8.cell, ← Array.getElem?_toList]; exact hu
              obtain ⟨v', w'', hrun, hown', hgrow, hnil⟩ := run_append_own (P := Tryd.prog) w' w1.heap.size 23 23 3 i0 (.int .i64 0) 1 8 Tryd.underlying23 hi hz0 hz1 hz2 rfl (by decide) x.2.1 k _ hown ⟨x.2.2.1, 0, none⟩ 1 1 (ic [xv]) rfl hsrc ic_one (by unfold maxLen; omega) (by omega) hS0.size
              have hbz : Below w1.heap.size w1 w'' := hS0.grown hgrow hS0.size (fun b hb => (hown.lt b hb).1)
              refine ⟨rfl, .inl ⟨(x.1, x.2.1, x.2.2.1, v', x.2.2.2.2), w'', fun j hj => ?_, exec_append rfl x1 x2 hrun, hbz, (fun h h' => ?_), (fun _ h => ?_), (fun _ h => ?_), (fun _ _ => ?_), (fun h => ?_), fun _ => ?_⟩⟩
              · have n7 : j ≠ 10 := fun e => by subst e; rw [hLi] at hj; cases hj
                exact but_i10 j n7
              · rw [set_ne (by decide)] at h'; have h9 := hLd 4 (by kernel_rfl); rw [h9] at h'; cases h'
              · rw [set_eq (by rw [hLs]; decide)] at h; cases h
              · rw [set_eq (by rw [hLs]; decide)] at h; cases h
              · have hx : ic (out.take k) ++ ic [xv] = ic (out.take k ++ [xv]) := by unfold ic; simp
                rw [hx] at hown'; exact hown'
              · rw [set_ne (by decide), hLn 14 (by kernel_rfl)] at h; cases h
              · rw [set_ne (by decide)]; exact hLd 4 (by kernel_rfl)
            · obtain rfl := Option.some.inj ho
              have l5 : a.tmps[5]?.getD undef = .slice (some ad) i cc := (Array.getD_eq_getD_getElem? ..).symm.trans (hold 15 _ 5 (by kernel_rfl) rfl rfl)
              exact ⟨rfl, .inl ⟨x, w', fun _ _ => rfl, by simp [execOp, Act.eval, l5, go_sem], K (by decide) (by decide) (by decide) (by decide) (by decide)⟩⟩
            · obtain rfl := Option.some.inj ho
              exact ⟨rfl, .inl ⟨x, w', fun _ _ => rfl, by simp [execOp, Act.eval, l7, go_sem], K (by decide) (by decide) (by decide) (by decide) (by decide)⟩⟩
            · obtain rfl := Option.some.inj ho
              have e44 : a.tmps[44]?.getD undef = .slice (some ad) i cc := D 11 _ 44 (by kernel_rfl) rfl rfl
              have e45 : a.tmps[45]?.getD undef = .int .i64 (k : Int) := D 12 _ 45 (by kernel_rfl) rfl rfl
              have x1 : a.eval (.tmp 44) = .slice (some ad) i cc := by simp [Act.eval, e44]
              have x2 : a.eval (.tmp 45) = .int .i64 (k : Int) := by simp [Act.eval, e45]
              have hsl : (Instr.sliceAt 23 (a.eval (.tmp 44)) ((some (Operand.tmp 45)).map a.eval) none none).run Tryd.prog w' = .ok (.slice (some (tailAd ad k cc)) (i - k) (cc - k)) w' := by
                rw [x1, Option.map_some, x2]; exact slice_l ad _ cc k w' (by omega)
              exact ⟨rfl, .inl ⟨x, w', fun _ _ => rfl, exec_slice rfl hsl, K (by decide) (by decide) (by decide) (by decide) (by decide)⟩⟩
            · obtain rfl := Option.some.inj ho
              have e43 : a.tmps[43]?.getD undef = x.2.2.2.1 := D 10 _ 43 (by kernel_rfl) rfl rfl
              have e46 : a.tmps[46]?.getD undef = .slice (some (tailAd ad k cc)) (i - k) (cc - k) := D 13 _ 46 (by kernel_rfl) rfl rfl
              have x1 : a.eval (.tmp 43) = x.2.2.2.1 := by simp [Act.eval, e43]
              have x2 : a.eval (.tmp 46) = .slice (some (tailAd ad k cc)) (i - k) (cc - k) := by simp [Act.eval, e46]
              have t9 : L.getD 10 true = true := hLd 10 (by kernel_rfl)
              have hown := hS4 t9 hLi
              obtain ⟨v', w'', hrun, hown', hgrow, hnil⟩ := run_append_own (P := Tryd.prog) w' w1.heap.size 23 23 3 i0 (.int .i64 0) 1 8 Tryd.underlying23 hi hz0 hz1 hz2 rfl (by decide) x.2.2.2.1 (k + 1) _ hown (tailAd ad k cc) (i - k) (cc - k) (ic (out.drop k)) (by rw [ic_len]; simp; omega) (tail_src (HRW.out.below hS0) (by omega)) ic_one (by unfold maxLen; omega) (by omega) hS0.size
              have hbz : Below w1.heap.size w1 w'' := hS0.grown hgrow hS0.size (fun b hb => (hown.lt b hb).1)
              refine ⟨rfl, .inl ⟨(x.1, x.2.1, x.2.2.1, x.2.2.2.1, v'), w'', fun j hj => ?_, exec_append rfl x1 x2 hrun, hbz, (fun h h' => ?_), (fun _ h => ?_), (fun _ h => ?_), (fun _ h => ?_), (fun _ => ?_), fun _ => ?_⟩⟩
              · have n11 : j ≠ 14 := fun e => by subst e; rw [hLi] at hj; cases hj
                have f12 : L.getD 15 true = false := hLn 15 (by kernel_rfl)
                have n12 : j ≠ 15 := fun e => by subst e; rw [f12] at hj; cases hj
                exact but_i14 j n11 n12
              · rw [set_ne (by decide), hS6 t9] at h'; cases h'
              · rw [set_ne (by decide), t9] at h; cases h
              · rw [set_ne (by decide), t9] at h; cases h
              · rw [set_eq (by rw [hLs]; decide)] at h; cases h
              · have hx : ic (out.take k ++ [xv]) ++ ic (out.drop k) = ic (out.take k ++ [xv] ++ out.drop k) := by unfold ic; simp
                rw [hx, show k + 1 + (i - k) = i + 1 by omega] at hown'; exact ⟨by rw [set_ne (by decide)]; exact t9, hown'⟩
              · rw [set_ne (by decide)]; exact hS6 t9
            · obtain rfl := Option.some.inj ho
              have e47 : a.tmps[47]?.getD undef = x.2.2.2.2 := D 14 _ 47 (by kernel_rfl) rfl rfl
              exact ⟨rfl, .inl ⟨x, w', fun _ _ => rfl, by simp [execOp, Act.eval, e47, go_sem], K (by decide) (by decide) (by decide) (by decide) (by decide)⟩⟩
    · obtain rfl : i = l.length := by omega
      go_wp2
      go_ret
      exact ⟨_, rfl, HO.out, HW.out⟩
end
end Go.Proofs.YtjemjdlaoebffaaDoor

end
section
namespace Go.Proofs.YtjemjdlaoebffaaDoor
open Go.RowKit
theorem gonTo_bd {js : List J} {p : List Nat} (ht : ∀ j ∈ js, 0 ≤ j.t ∧ j.t ≤ 50) : ∀ k, 0 ≤ gonTo js p k ∧ gonTo js p k ≤ 50 * (k : Int)
  | 0 => by unfold gonTo; omega
  | k + 1 => by
    have h1 := gonTo_bd (p := p) ht k
    have h2 : 0 ≤ (js.getD (p.getD k 0) j0).t ∧ (js.getD (p.getD k 0) j0).t ≤ 50 := by
      by_cases hx : p.getD k 0 < js.length
      · rw [getD_at js j0 hx]; exact ht _ (List.getElem_mem hx)
      · rw [List.getD_eq_getElem?_getD, List.getElem?_eq_none (by omega)]; simp [j0]
    show 0 ≤ gonTo js p k + _ ∧ gonTo js p k + _ ≤ _
    omega
section
variable (A B : Option Addr) (c d : Nat) (js : List J) (l : List Nat) (w : World) (hr : Row w A (jc js)) (hq : Row w B (ic (natI l))) (hl : ∀ x ∈ l, x < js.length) (hn : l.length ≤ 8) (ht : ∀ j ∈ js, 0 ≤ j.t ∧ j.t ≤ 50)
include hr hq hl hn ht
set_option maxRecDepth 100000 in
set_option maxHeartbeats 4000000 in
theorem l6Timely_any : Calls Tryd.prog 83 #[.slice A js.length c, .slice B l.length d] w fun e w' => e = .returned (.bool (timlyB js (dueL js l))) ∧ Below w.heap.size w w' := by
  have hpm : ∀ x ∈ dueL js l, x < js.length := fun x hx => hl x ((dueL_perm js l).mem_iff.1 hx)
  have hpl : (dueL js l).length = l.length := dueL_len _ _
  have HC := Lib.hid (l6Due_any A B c d js l w hr hq hl hn)
  rw [← hpl] at HC
  have hp8 : (dueL js l).length ≤ 8 := by omega
  have hld : l.length = (dueL js l).length := hpl.symm
  have HR := Lib.hid hr
  clear hr hq hl hn hpl
  generalize dueL js l = p at *
  rw [hld]
  clear hld
  have HT : Hid (timlyB js p = decide (∀ k, k < p.length → gonTo js p (k + 1) ≤ (js.getD (p.getD k 0) j0).d)) := rfl
  go_enter Tryd.func83, Tryd.ntmps83
  go_wp2_with fail
  refine HC.out.mono ?_
  rintro e w2 ⟨v, rfl, hown, hb2⟩
  obtain ⟨B2, d2, rfl, _, hrow⟩ := own_slice hown
  have HB2 := Lib.hid hb2
  have HO2 := Lib.hid hrow
  clear hown hrow hb2 HC
  go_wp2
  go_loopw [6, 7] (fun nv iv wr => ∃ k : Nat, k ≤ p.length ∧ iv = .int .i64 (k : Int) ∧ nv = .int .i64 (gonTo js p k) ∧ (∀ i, i < k → gonTo js p (i + 1) ≤ (js.getD (p.getD i 0) j0).d) ∧ Hid (Below w2.heap.size w2 wr)) (fun _ iv _ => p.length - (intOf iv).toNat)
  case atStart => exact ⟨0, Nat.zero_le _, rfl, rfl, fun i hi => absurd hi (by omega), Lib.hid (Below.refl _ _)⟩
  case round =>
    obtain ⟨k, hk, rfl, rfl, hall, HB⟩ := hrel
    by_cases hlt : k < p.length
    · have hk0 : (0 : Int) ≤ k := by omega
      have hk1 : (k : Int) < p.length := by omega
      have hxl := hpm _ (List.getElem_mem hlt)
      obtain ⟨bd, hBe, hcx⟩ := (HO2.out.below HB.out).nat hlt
      subst hBe
      have hbw := HB2.out.trans (HB.out.mono HB2.out.size)
      obtain ⟨ad, hA, hadb, c0, c1, c2, c3⟩ := (HR.out.below hbw).job hxl
      subst hA
      have n1 := gonTo_bd (p := p) ht k
      have hjt := ht _ (List.getElem_mem hxl)
      have HN : Hid (gonTo js p (k + 1) = gonTo js p k + (js[p[k]]'hxl).t) := by
        show _ = _
        show gonTo js p k + _ = _
        rw [getD_at p 0 hlt, getD_at js j0 hxl]
      have HD : Hid ((js.getD (p.getD k 0) j0).d = (js[p[k]]'hxl).d) := by
        show _ = _
        rw [getD_at p 0 hlt, getD_at js j0 hxl]
      have hx0 : (0 : Int) ≤ p[k] := by omega
      have hx1 : (p[k] : Int) < js.length := by omega
      have HBW := Lib.hid hbw
      have HALL := Lib.hid hall
      clear hbw ht hall
      generalize hjx : js[p[k]] = j at *
      clear hjx
      generalize hpk : p[k] = x at *
      clear hpk
      have hin := IntWalk.i64_in (gonTo js p k + j.t) (by omega)
      by_cases hlate : j.d < gonTo js p k + j.t
      · go_wp2
        go_ret
        have hf : timlyB js p = false := by
          rw [HT.out]
          refine decide_eq_false fun h => ?_
          have := h k hlt
          rw [HN.out, HD.out] at this
          omega
        rw [hf]
        exact ⟨rfl, HBW.out⟩
      · go_wp2
        go_roundw
        case rel => exact ⟨k + 1, by omega, by go_num, by rw [HN.out], fun i hi => by
          by_cases hik : i = k
          · subst hik; rw [HN.out, HD.out]; omega
          · exact HALL.out i (by omega), HB⟩
        case measure => simp [intOf]; omega
    · obtain rfl : k = p.length := by omega
      have HBW := Lib.hid (HB2.out.trans (HB.out.mono HB2.out.size))
      go_wp2
      go_ret
      exact ⟨by rw [HT.out, decide_eq_true hall]; rfl, HBW.out⟩
end
end Go.Proofs.YtjemjdlaoebffaaDoor

end
section
namespace Go.Proofs.YtjemjdlaoebffaaDoor
open Go.RowKit
section
variable (B : Option Addr) (d n : Nat) (s : List Int) (w : World) (hq : Row w B (ic s)) (hm : s.length ≤ 10000000)
include hq hm
set_option maxRecDepth 100000 in
set_option maxHeartbeats 1000000 in
theorem l1Rising_any : Calls Tryd.prog 135 #[.slice B s.length d, .int .i64 0, .int .i64 ((n : Int) - 1)] w fun e w' => e = .returned (.bool (risL n s)) ∧ ∃ m, w' = w.drewN m := by
  have HB : Hid (∀ k, risOk n s k = false → k < s.length → risL n s = false) := fun k h hk => risTo_bad hk h
  have HE : Hid (risL n s = risTo n s s.length) := rfl
  have H0 : Hid (risTo n s 0 = true) := rfl
  go_enter Tryd.func135, Tryd.ntmps135
  go_wp2
  go_loopw [7] (fun i wr => ∃ k m : Nat, k ≤ s.length ∧ i = .int .i64 (k : Int) ∧ wr = w.drewN m ∧ Hid (risTo n s k = true)) (fun i _ => s.length - (intOf i).toNat)
  case atStart => exact ⟨0, 0, Nat.zero_le _, rfl, rfl, H0⟩
  case round =>
    obtain ⟨k, m, hk, rfl, rfl, HS⟩ := hrel
    clear H0
    by_cases hlt : k < s.length
    · have hk0 : (0 : Int) ≤ k := by omega
      have hk1 : (k : Int) < s.length := by omega
      obtain ⟨ad, hB, hc⟩ := hq.int hlt
      subst hB
      have hin : inB s[k] 0 ((n : Int) - 1) = decide (0 ≤ s[k] ∧ s[k] < n) := by
        unfold inB; rw [decide_eq_decide]; omega
      by_cases hr : 0 ≤ s[k] ∧ s[k] < n
      · rw [decide_eq_true hr] at hin
        cases k with
        | zero =>
          have HN := Lib.hid (risL_step HS.out (risOk_first hlt hr))
          have hc0 : w.cell? ad = some (.int .i64 s[0]) := by simpa [Addr.add] using hc
          clear HS hc
          generalize s[0] = x at *
          go_wp2
          go_quiet ((go_at_call 70; (first | exact Calls.quiet_of ((l1In_any _ _ _ _).mono fun _ _ ⟨he, hw⟩ => ⟨by rw [he, hin], 0, hw.symm⟩) | exact quiet_same ((l1In_any _ _ _ _).mono fun _ _ ⟨he, hw⟩ => ⟨by rw [he, hin], hw⟩))))
          go_wp2
          go_roundw
          case rel => exact ⟨1, _, by omega, by go_num, rfl, HN⟩
          case measure => simp [intOf]; omega
        | succ k =>
          obtain ⟨ad', hB', hc'⟩ := hq.int (show k < s.length by omega)
          injection hB' with hB'
          subst hB'
          by_cases hlt2 : s[k]'(by omega) < s[k + 1]
          · have HN := Lib.hid (risL_step HS.out (risOk_next hlt hr hlt2))
            clear HS
            generalize s[k + 1] = x at *
            generalize s[k]'(by omega) = y at *
            have hsub : IntKind.i64.wrap (((k + 1 : Nat) : Int) - 1) = (k : Int) := by rw [IntWalk.i64_in _ (by omega)]; omega
            have hkpos : 0 < k + 1 := by omega
            have hkm0 : (0 : Int) ≤ k := by omega
            have hkm1 : (k : Int) < s.length := by omega
            generalize k + 1 = kk at *
            go_wp2
            go_quiet ((go_at_call 70; (first | exact Calls.quiet_of ((l1In_any _ _ _ _).mono fun _ _ ⟨he, hw⟩ => ⟨by rw [he, hin], 0, hw.symm⟩) | exact quiet_same ((l1In_any _ _ _ _).mono fun _ _ ⟨he, hw⟩ => ⟨by rw [he, hin], hw⟩))))
            go_wp2
            go_roundw
            case rel => exact ⟨kk + 1, _, by omega, by go_num, rfl, HN⟩
            case measure => simp [intOf]; omega
          · have HF := Lib.hid (HB.out (k + 1) (risOk_back hlt (by omega)) hlt)
            clear HS
            generalize s[k + 1] = x at *
            generalize s[k]'(by omega) = y at *
            have hsub : IntKind.i64.wrap (((k + 1 : Nat) : Int) - 1) = (k : Int) := by rw [IntWalk.i64_in _ (by omega)]; omega
            have hkpos : 0 < k + 1 := by omega
            have hkm0 : (0 : Int) ≤ k := by omega
            have hkm1 : (k : Int) < s.length := by omega
            generalize k + 1 = kk at *
            go_wp2
            go_quiet ((go_at_call 70; (first | exact Calls.quiet_of ((l1In_any _ _ _ _).mono fun _ _ ⟨he, hw⟩ => ⟨by rw [he, hin], 0, hw.symm⟩) | exact quiet_same ((l1In_any _ _ _ _).mono fun _ _ ⟨he, hw⟩ => ⟨by rw [he, hin], hw⟩))))
            go_wp2
            go_ret
            exact ⟨by rw [HF.out]; rfl, _, World.drewN_drewN _ _ _⟩
      · rw [decide_eq_false hr] at hin
        have HF := Lib.hid (HB.out k (risOk_bad hlt hr) hlt)
        clear HS
        generalize s[k] = x at *
        go_wp2
        go_quiet ((go_at_call 70; (first | exact Calls.quiet_of ((l1In_any _ _ _ _).mono fun _ _ ⟨he, hw⟩ => ⟨by rw [he, hin], 0, hw.symm⟩) | exact quiet_same ((l1In_any _ _ _ _).mono fun _ _ ⟨he, hw⟩ => ⟨by rw [he, hin], hw⟩))))
        go_wp2
        go_ret
        exact ⟨by rw [HF.out]; rfl, _, World.drewN_drewN _ _ _⟩
    · obtain rfl : k = s.length := by omega
      go_wp2
      go_ret
      exact ⟨by rw [HE.out, HS.out]; rfl, m, rfl⟩
set_option maxRecDepth 100000 in
set_option maxHeartbeats 1000000 in
theorem isSetOf_any : Calls Tryd.prog 137 #[.int .i64 (n : Int), .slice B s.length d] w fun e w' => e = .returned (.bool (risL n s)) ∧ w' = w := by
  have HB : Hid (∀ k, risOk n s k = false → k < s.length → risL n s = false) := fun k h hk => risTo_bad hk h
  have HE : Hid (risL n s = risTo n s s.length) := rfl
  have H0 : Hid (risTo n s 0 = true) := rfl
  go_enter Tryd.func137, Tryd.ntmps137
  go_wp2
  go_loopw [9] (fun i wr => ∃ k : Nat, k ≤ s.length ∧ i = .int .i64 (k : Int) ∧ wr = w ∧ Hid (risTo n s k = true)) (fun i _ => s.length - (intOf i).toNat)
  case atStart => exact ⟨0, Nat.zero_le _, rfl, rfl, H0⟩
  case round =>
    obtain ⟨k, hk, rfl, rfl, HS⟩ := hrel
    clear H0
    by_cases hlt : k < s.length
    · have hk0 : (0 : Int) ≤ k := by omega
      have hk1 : (k : Int) < s.length := by omega
      obtain ⟨ad, hB, hc⟩ := hq.int hlt
      subst hB
      by_cases hneg : s[k] < 0
      · have HF := Lib.hid (HB.out k (risOk_bad hlt (by omega)) hlt)
        clear HS
        generalize s[k] = x at *
        go_wp2
        go_ret
        exact ⟨by rw [HF.out]; rfl, rfl⟩
      · by_cases hbig : (n : Int) ≤ s[k]
        · have HF := Lib.hid (HB.out k (risOk_bad hlt (by omega)) hlt)
          clear HS
          generalize s[k] = x at *
          go_wp2
          go_ret
          exact ⟨by rw [HF.out]; rfl, rfl⟩
        · have hr : 0 ≤ s[k] ∧ s[k] < n := by omega
          cases k with
          | zero =>
            have HN := Lib.hid (risL_step HS.out (risOk_first hlt hr))
            have hc0 : wr.cell? ad = some (.int .i64 s[0]) := by simpa [Addr.add] using hc
            clear HS hc
            generalize s[0] = x at *
            go_wp2
            go_roundw
            case rel => exact ⟨1, by omega, by go_num, trivial, HN⟩
            case measure => simp [intOf]; omega
          | succ k =>
            obtain ⟨ad', hB', hc'⟩ := hq.int (show k < s.length by omega)
            injection hB' with hB'
            subst hB'
            by_cases hlt2 : s[k]'(by omega) < s[k + 1]
            · have HN := Lib.hid (risL_step HS.out (risOk_next hlt hr hlt2))
              clear HS
              generalize s[k + 1] = x at *
              generalize s[k]'(by omega) = y at *
              have hsub : IntKind.i64.wrap (((k + 1 : Nat) : Int) - 1) = (k : Int) := by rw [IntWalk.i64_in _ (by omega)]; omega
              have hkpos : 0 < k + 1 := by omega
              have hkm0 : (0 : Int) ≤ k := by omega
              have hkm1 : (k : Int) < s.length := by omega
              generalize k + 1 = kk at *
              go_wp2
              go_roundw
              case rel => exact ⟨kk + 1, by omega, by go_num, trivial, HN⟩
              case measure => simp [intOf]; omega
            · have HF := Lib.hid (HB.out (k + 1) (risOk_back hlt (by omega)) hlt)
              clear HS
              generalize s[k + 1] = x at *
              generalize s[k]'(by omega) = y at *
              have hsub : IntKind.i64.wrap (((k + 1 : Nat) : Int) - 1) = (k : Int) := by rw [IntWalk.i64_in _ (by omega)]; omega
              have hkpos : 0 < k + 1 := by omega
              have hkm0 : (0 : Int) ≤ k := by omega
              have hkm1 : (k : Int) < s.length := by omega
              generalize k + 1 = kk at *
              go_wp2
              go_ret
              exact ⟨by rw [HF.out]; rfl, rfl⟩
    · obtain rfl : k = s.length := by omega
      go_wp2
      go_ret
      exact ⟨by rw [HE.out, HS.out]; rfl, rfl⟩
set_option maxRecDepth 100000 in
theorem setOfList_any (h8 : risL 8 s = true) : Calls Tryd.prog 134 #[.slice B s.length d] w fun e w' => e = .returned (.int .u64 (numS s : Int)) ∧ w' = w := by
  have HE : Hid (numS s = numTo s s.length) := rfl
  go_enter Tryd.func134, Tryd.ntmps134
  go_wp2
  go_loopw [3, 8] (fun v i wr => ∃ k : Nat, k ≤ s.length ∧ i = .int .i64 (k : Int) ∧ v = .int .u64 (numTo s k : Int) ∧ wr = w) (fun _ i _ => s.length - (intOf i).toNat)
  case atStart => exact ⟨0, Nat.zero_le _, rfl, rfl, rfl⟩
  case round =>
    obtain ⟨k, hk, rfl, rfl, rfl⟩ := hrel
    by_cases hlt : k < s.length
    · have hk0 : (0 : Int) ≤ k := by omega
      have hk1 : (k : Int) < s.length := by omega
      obtain ⟨ad, hB, hc⟩ := hq.int hlt
      subst hB
      have hx := ris_at h8 hlt
      have hxn : ((s[k].toNat : Nat) : Int) = s[k] := by omega
      have HW := Lib.hid (with_any (numTo s k) (s[k]).toNat (numTo_lt h8 k (by omega)) (by omega) wr)
      have HN : Hid (numTo s (k + 1) = addB (numTo s k) (s[k]).toNat) := by
        show addB _ _ = _
        rw [getD_at s 0 hlt]
      rw [hxn, ← HN.out] at HW
      clear hx hxn HN
      generalize s[k] = x at *
      go_wp2_with fail
      refine HW.out.mono ?_
      rintro e _ ⟨rfl, rfl⟩
      go_wp2
      go_roundw
      case rel => exact ⟨k + 1, by omega, by go_num, rfl, trivial⟩
      case measure => simp [intOf]; omega
    · obtain rfl : k = s.length := by omega
      go_wp2
      go_ret
      exact ⟨by rw [HE.out]; rfl, rfl⟩
end
end Go.Proofs.YtjemjdlaoebffaaDoor

end
