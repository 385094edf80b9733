/- Unit jobs: the greedy set and circuits, in plain words. -/
import Derived.Test.YtpoibjmkbljblaaDoorUrP
namespace Go.Proofs.YtpoibjmkbljblaaDoor
/-- The jobs with the greatest ranks first, rank by rank. -/
def wGo (rk : Nat → Int) (n : Nat) : Nat → List Nat
  | 0 => []
  | k + 1 => wGo rk n k ++ (List.range n).filter fun i => decide (rk i = 50 - (k : Int))
theorem wGo_mem {rk : Nat → Int} {n x : Nat} : ∀ {k : Nat}, x ∈ wGo rk n k ↔ x < n ∧ 50 - (k : Int) < rk x ∧ rk x ≤ 50
  | 0 => by simp only [wGo, List.not_mem_nil, false_iff]; omega
  | k + 1 => by
    simp only [wGo, List.mem_append, wGo_mem (k := k), List.mem_filter, List.mem_range, decide_eq_true_eq]
    omega
theorem fB_of {rk : Nat → Int} {a b : Nat} (h : rk b < rk a ∨ rk b = rk a ∧ a < b) : fB rk a b = true := by
  unfold fB cmpJ
  rw [decide_eq_true_eq]
  split <;> omega
theorem wGo_sorted (rk : Nat → Int) (n : Nat) : ∀ k, (wGo rk n k).Pairwise fun a b => fB rk a b = true
  | 0 => List.Pairwise.nil
  | k + 1 => by
    rw [wGo, List.pairwise_append]
    refine ⟨wGo_sorted rk n k, ?_, fun a ha b hb => ?_⟩
    · refine (List.Pairwise.filter _ (List.pairwise_lt_range (n := n))).imp_of_mem ?_
      intro a b ha hb hab
      rw [List.mem_filter, decide_eq_true_eq] at ha hb
      exact fB_of (.inr ⟨by omega, hab⟩)
    · rw [wGo_mem] at ha
      rw [List.mem_filter, decide_eq_true_eq] at hb
      exact fB_of (.inl (by omega))
theorem sorted_eq {rk : Nat → Int} {p q : List Nat} (hp : p.Pairwise fun a b => fB rk a b = true) (hq : q.Pairwise fun a b => fB rk a b = true) (h : p.Perm q) : p = q :=
  h.eq_of_pairwise (fun a b _ _ h1 h2 => by have := fJ_asym h1; rw [h2] at this; cases this) hp hq
theorem wGo_all {rk : Nat → Int} {n : Nat} (h : ∀ i, i < n → 0 ≤ rk i ∧ rk i ≤ 50) : wGo rk n 51 = joL rk (List.range n) := by
  have s2 : (joL rk (List.range n)).Pairwise fun a b => fB rk a b = true := joTo_sorted List.nodup_range _ (Nat.le_refl _)
  refine sorted_eq (wGo_sorted rk n 51) s2 ?_
  have d1 : (wGo rk n 51).Nodup := (wGo_sorted rk n 51).imp fun {a b} h e => by subst e; have := fJ_asym h; rw [h] at this; cases this
  have d2 : (joL rk (List.range n)).Nodup := (joL_perm rk _).nodup_iff.2 List.nodup_range
  refine (List.perm_ext_iff_of_nodup d1 d2).2 fun x => ?_
  rw [wGo_mem, (joL_perm rk _).mem_iff, List.mem_range]
  constructor
  · exact fun hx => hx.1
  · intro hx; have := h x hx; omega
def wtF (js : List J) (k : Nat) : Int := (js.getD k j0).w
def greR (js : List J) : List Int × Bool := if unitB js && plainL js then (natI (memB (tkL js (joL (wtF js) (List.range js.length)))), true) else ([], false)
/-- Numbers are put to a set where they are wanted. -/
def putW (P : Nat → Bool) (c : Nat) (l : List Nat) : Nat := l.foldl (fun c i => if P i then addB c i else c) c
theorem putW_snoc (P : Nat → Bool) (c : Nat) (l : List Nat) (i : Nat) : putW P c (l ++ [i]) = if P i then addB (putW P c l) i else putW P c l := by unfold putW; rw [List.foldl_append]; rfl
theorem putW_ok {P : Nat → Bool} : ∀ (l : List Nat) (c : Nat), c < 256 → (∀ x ∈ l, x < 8) → putW P c l < 256 ∧ ∀ k, k < 8 → (putW P c l).testBit k = (c.testBit k || (l.contains k && P k))
  | [], c, hc, _ => ⟨hc, fun k _ => by simp [putW]⟩
  | i :: l, c, hc, h => by
    have hi := h i List.mem_cons_self
    have hl : ∀ x ∈ l, x < 8 := fun x hx => h x (List.mem_cons_of_mem _ hx)
    have e : putW P c (i :: l) = putW P (if P i then addB c i else c) l := rfl
    rw [e]
    have hc2 : (if P i then addB c i else c) < 256 := by split <;> first | exact addB_lt8 c hc i hi | exact hc
    have ih := putW_ok (P := P) l _ hc2 hl
    refine ⟨ih.1, fun k hk => ?_⟩
    rw [ih.2 k hk, List.contains_cons]
    by_cases hki : k = i
    · subst hki
      cases hP : P k
      · simp
      · simp [memB_add c hc k hi k hk]
    · have hb : (k == i) = false := by simpa using hki
      rw [hb, Bool.false_or]
      cases hP : P i
      · simp
      · simp [memB_add c hc i hi k hk, hki]
theorem nat8_eq {a b : Nat} (ha : a < 256) (hb : b < 256) (h : ∀ k, k < 8 → a.testBit k = b.testBit k) : a = b := by
  refine Nat.eq_of_testBit_eq fun k => ?_
  rcases Nat.lt_or_ge k 8 with hk | hk
  · exact h k hk
  · have p : (2 : Nat) ^ 8 ≤ 2 ^ k := Nat.pow_le_pow_right (by omega) hk
    rw [Nat.testBit_lt_two_pow (Nat.lt_of_lt_of_le ha p), Nat.testBit_lt_two_pow (Nat.lt_of_lt_of_le hb p)]
theorem sub_bit : ∀ s, s < 256 → ∀ j, j < 8 → ∀ i, i < 8 → ((subB s j).testBit i = (s.testBit i && decide (i ≠ j))) := by decide +kernel
theorem sub_lt8 : ∀ s, s < 256 → ∀ j, j < 8 → subB s j < 256 := by decide +kernel
theorem sub_add : ∀ s, s < 256 → ∀ j, j < 8 → s.testBit j = false → subB (addB s j) j = s := by decide +kernel
theorem add_sub {s i j : Nat} (hs : s < 256) (hi : i < 8) (hj : j < 8) (hij : i ≠ j) : addB (subB s i) j = subB (addB s j) i := by
  have h1 := sub_lt8 s hs i hi
  have h2 := addB_lt8 s hs j hj
  refine nat8_eq (addB_lt8 _ h1 j hj) (sub_lt8 _ h2 i hi) fun k hk => ?_
  rw [memB_add _ h1 j hj k hk, sub_bit _ hs i hi k hk, sub_bit _ h2 i hi k hk, memB_add _ hs j hj k hk]
  by_cases e1 : k = i
  · subst e1; simp [hij]
  · simp [e1]
/-- The circuit: the jobs of the grown set without each single one of which it is timely. -/
def cirB (js : List J) (g : Nat) : Nat := putW (fun i => timB js (subB g i)) 0 (memB g)
/-- ..as the model finds it. -/
def cirM (js : List J) (s j : Nat) : Nat := putW (fun i => timB js (addB (subB s i) j)) (addB 0 j) (memB s)
theorem mem8 (s : Nat) : ∀ x ∈ memB s, x < 8 := fun x hx => by
  unfold memB at hx
  rw [List.mem_filter, List.mem_range] at hx
  exact hx.1
theorem memB_has {s k : Nat} (hs : s < 256) : (memB s).contains k = s.testBit k := by
  rw [Bool.eq_iff_iff, List.contains_iff_mem, memB_mem hs]
theorem cir_eq {js : List J} {s j : Nat} (hs : s < 256) (hj : j < 8) (hn : s.testBit j = false) (ht : timB js s = true) : cirM js s j = cirB js (addB s j) := by
  have hg := addB_lt8 s hs j hj
  have h0 := addB_lt8 0 (by omega) j hj
  have m := putW_ok (P := fun i => timB js (addB (subB s i) j)) (memB s) (addB 0 j) h0 (mem8 s)
  have b := putW_ok (P := fun i => timB js (subB (addB s j) i)) (memB (addB s j)) 0 (by omega) (mem8 _)
  refine nat8_eq m.1 b.1 fun k hk => ?_
  unfold cirM cirB
  rw [m.2 k hk, b.2 k hk, memB_has hs, memB_has hg, memB_add 0 (by omega) j hj k hk, memB_add s hs j hj k hk, Nat.zero_testBit, Bool.false_or, Bool.false_or]
  by_cases e : k = j
  · subst e; rw [sub_add s hs k hj hn, ht]; simp
  · rw [add_sub hs hk hj e]; simp [e]
def cirR (js : List J) (s : List Int) (j : Int) : List Int × Bool :=
  if (unitB js && plainL js) && risL js.length s && decide (0 ≤ j ∧ j < js.length) && (timB js (numS s) && !(numS s).testBit j.toNat && !timB js (addB (numS s) j.toNat))
  then (natI (memB (cirB js (addB (numS s) j.toNat))), true) else ([], false)
end Go.Proofs.YtpoibjmkbljblaaDoor
