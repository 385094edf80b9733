/- A drawing region whose values are a dictionary, as RegA: what follows is asked of the slots with these values put in. -/
import Derived.Test.YteidhjmnononaaaRegA
namespace Go.Proofs.Yteidhjmnononaaa
def putsL : List Oper → (Nat → Value) → Nat → Act → Act
  | [], _, _, a => a
  | o :: r, v, j, a => putsL r v (j + 1) (a.put o.dst (v j))
theorem put_size (a : Act) (d : Option Nat) (u : Value) : (a.put d u).tmps.size = a.tmps.size := by
  cases d <;> simp [Act.put]
theorem put_defers (a : Act) (d : Option Nat) (u : Value) : (a.put d u).defers = a.defers := by
  cases d <;> rfl
theorem put_get (a : Act) (d t : Nat) (u : Value) : (a.put (some d) u).tmps.getD t undef = if d = t ∧ t < a.tmps.size then u else a.tmps.getD t undef := by
  unfold Act.put
  simp only [Array.getD_eq_getD_getElem?, Array.getElem?_setIfInBounds]
  by_cases e : d = t
  · subst e
    by_cases h : d < a.tmps.size
    · simp [h]
    · simp [h]
  · simp [e]
theorem puts_same : ∀ (l : List Oper) (v : Nat → Value) (j : Nat) (a : Act), (putsL l v j a).tmps.size = a.tmps.size ∧ (putsL l v j a).defers = a.defers
  | [], _, _, _ => ⟨rfl, rfl⟩
  | o :: r, v, j, a => by
    have h := puts_same r v (j + 1) (a.put o.dst (v j))
    exact ⟨h.1.trans (put_size _ _ _), h.2.trans (put_defers _ _ _)⟩
theorem puts_low (t : Nat) : ∀ (l : List Oper) (v : Nat → Value) (j : Nat) (a : Act), (∀ o ∈ l, o.dst ≠ some t) → (putsL l v j a).tmps.getD t undef = a.tmps.getD t undef
  | [], _, _, _, _ => rfl
  | o :: r, v, j, a, h => by
    have h1 := puts_low t r v (j + 1) (a.put o.dst (v j)) (fun o' ho' => h o' (List.mem_cons_of_mem _ ho'))
    refine h1.trans ?_
    cases hd : o.dst with
    | none => rfl
    | some d =>
      have := h o List.mem_cons_self
      rw [put_get, if_neg (fun q => this (by rw [hd, q.1]))]
theorem puts_hit (d : Nat) : ∀ (l : List Oper) (v : Nat → Value) (j : Nat) (a : Act) (i : Nat) (o : Oper), l[i]? = some o → o.dst = some d → d < a.tmps.size → (∀ i' o', l[i']? = some o' → o'.dst = some d → i' = i) → (putsL l v j a).tmps.getD d undef = v (j + i)
  | [], _, _, _, _, _, h, _, _, _ => by simp at h
  | o :: r, v, j, a, 0, o', h, hd, hlt, hun => by
    have e : o = o' := by simpa using h
    subst e
    have h1 := puts_low d r v (j + 1) (a.put o.dst (v j)) (fun o' ho' hd' => by
      obtain ⟨i, hi, rfl⟩ := List.getElem_of_mem ho'
      have := hun (i + 1) r[i] (by simp [hi]) hd'
      omega)
    refine h1.trans ?_
    rw [hd, put_get, if_pos ⟨rfl, hlt⟩]
    rfl
  | o :: r, v, j, a, i + 1, o', h, hd, hlt, hun => by
    have h1 := puts_hit d r v (j + 1) (a.put o.dst (v j)) i o' (by simpa using h) hd (by rw [put_size]; exact hlt) (fun i' o'' hi' hd' => by
      have := hun (i' + 1) o'' (by simpa using hi') hd'
      omega)
    refine h1.trans ?_
    congr 1
    omega
section
variable {P : Program} {ops : Array Oper} {Q : Exit → Act → World → Prop}
theorem wp_region_detP {γ : Type} {id : Nat} {tm0 : Array Value} {df : List Deferred} {w : World} (hm : P.follows .mixedOrders = true) (S : γ → Array Bool → World → Prop) (val : γ → Nat → Value) (x0 : γ) (hback : backBB ops = true) (hown : ownDst ops tm0.size = true)
    (h0 : S x0 (Array.replicate ops.size false) w.drew)
    (hdone : ∀ (x : γ) (L : Array Bool) (W : World), (∀ i, i < ops.size → L.getD i true = true) → S x L W → Q .normal (putsL ops.toList (val x) 0 ⟨tm0, df⟩) W)
    (hstep : ∀ (x : γ) (L : Array Bool) (a : Act) (w : World) (i : Nat) (o : Oper), L.size = ops.size → ops[i]? = some o → L.getD i true = false → (∀ j, edgeB ops i j = true → L.getD j true = true) → (∀ j, edgeB ops j i = true → L.getD j true = false) → S x L w → (∀ t, ((List.range ops.size).all fun j => !((ops[j]?).bind (·.dst) == some t)) = true → a.tmps.getD t undef = tm0.getD t undef) →
      (∀ j oj d, edgeB ops i j = true → ops[j]? = some oj → oj.dst = some d → a.tmps.getD d undef = val x j) → Region.wanted o (yielded ops a.tmps) = true ∧ StepA P S val x L i o a w) :
    (Code.region id ops true).wp P Q ⟨tm0, df⟩ w := by
  refine wp_region_detA hm S val x0 hback hown h0 ?_ (fun x L a w i o h1 h2 h3 h4 h5 h6 h7 h8 _ => hstep x L a w i o h1 h2 h3 h4 h5 h6 h7 h8)
  intro x L tm W hall hS hsz hlow hval
  have hp := puts_same ops.toList (val x) 0 ⟨tm0, df⟩
  have key : (⟨tm, df⟩ : Act) = putsL ops.toList (val x) 0 ⟨tm0, df⟩ := by
    cases hb : putsL ops.toList (val x) 0 ⟨tm0, df⟩ with | mk tm' df' => ?_
    rw [hb] at hp
    obtain ⟨hp1, hp2⟩ := hp
    simp only at hp1 hp2
    subst hp2
    have ht : tm = tm' := by
      refine arr_of _ _ (by rw [hsz, hp1]) fun t ht => ?_
      have hg : tm'.getD t undef = (putsL ops.toList (val x) 0 ⟨tm0, df'⟩).tmps.getD t undef := by rw [hb]
      rw [hg]
      by_cases hx : ∃ (j : Nat) (o : Oper), ops[j]? = some o ∧ o.dst = some t
      · obtain ⟨j, o, ho, hd⟩ := hx
        rw [hval j o t ho hd, puts_hit t ops.toList (val x) 0 ⟨tm0, df'⟩ j o (by rw [Array.getElem?_toList]; exact ho) hd (by rw [← hp1]; exact ht) (fun i' o' hi' hd' => by
          rw [Array.getElem?_toList] at hi'
          exact ownDst_inj hown ho hd hi' hd'), Nat.zero_add]
      · rw [hlow t (by
          rw [List.all_eq_true]
          intro j _
          cases ho : ops[j]? with
          | none => rfl
          | some o =>
            have : o.dst ≠ some t := fun hd => hx ⟨j, o, ho, hd⟩
            simpa using this), puts_low t ops.toList (val x) 0 ⟨tm0, df'⟩ (fun o ho hd => by
          obtain ⟨j, hj, rfl⟩ := List.getElem_of_mem ho
          exact hx ⟨j, _, by rw [← Array.getElem?_toList]; exact List.getElem?_eq_getElem hj, hd⟩)]
    rw [ht]
  rw [key]
  exact hdone x L W hall hS
end
end Go.Proofs.Yteidhjmnononaaa
