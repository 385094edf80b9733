/- Plain words for precedence: pairs, what is before what, by tables and by sets that grow. -/
import Derived.Test.YtjemjdlaoebffaaDoorGrpP
namespace Go.Proofs.YtjemjdlaoebffaaDoor
abbrev Ed := Int × Int
/-- A pair is of numbers of n jobs, and comes behind the one ahead of it. -/
def edOk (n : Int) (E : List Ed) (i : Nat) : Bool := decide (0 ≤ (E.getD i (0, 0)).1 ∧ (E.getD i (0, 0)).1 < n ∧ 0 ≤ (E.getD i (0, 0)).2 ∧ (E.getD i (0, 0)).2 < n) && (decide (i = 0) || decide ((E.getD (i - 1) (0, 0)).1 < (E.getD i (0, 0)).1 ∨ (E.getD (i - 1) (0, 0)).1 = (E.getD i (0, 0)).1 ∧ (E.getD (i - 1) (0, 0)).2 < (E.getD i (0, 0)).2))
def pairsTo (n : Int) (E : List Ed) (k : Nat) : Bool := (List.range k).all (edOk n E)
theorem pairsTo_succ (n : Int) (E : List Ed) (k : Nat) : pairsTo n E (k + 1) = (pairsTo n E k && edOk n E k) := by
  unfold pairsTo; rw [List.range_succ, List.all_append]; simp
theorem pairsTo_bad {n : Int} {E : List Ed} {k m : Nat} (h : k < m) (hk : edOk n E k = false) : pairsTo n E m = false := by
  unfold pairsTo; rw [List.all_eq_false]; exact ⟨k, List.mem_range.2 h, by rw [hk]; simp⟩
theorem pairsTo_at {n : Int} {E : List Ed} {k m : Nat} (h : pairsTo n E m = true) (hk : k < m) : edOk n E k = true := by
  unfold pairsTo at h; exact List.all_eq_true.1 h k (List.mem_range.2 hk)
/-- Whether a pair is told. -/
def edB (E : List Ed) (i j : Nat) : Bool := E.contains ((i : Int), (j : Int))
/-- What is before what, when pairs lead over the first k jobs alone. -/
def tabTo (E : List Ed) : Nat → Nat → Nat → Bool
  | 0, i, j => edB E i j
  | k + 1, i, j => tabTo E k i j || (tabTo E k i k && tabTo E k k j)
def tabB (n : Nat) (E : List Ed) (i j : Nat) : Bool := tabTo E n i j
theorem tabTo_mono (E : List Ed) {k : Nat} {i j : Nat} (h : tabTo E k i j = true) : tabTo E (k + 1) i j = true := by
  show (_ || _) = true
  rw [h]; rfl
theorem tabTo_le (E : List Ed) {k m : Nat} (h : k ≤ m) {i j : Nat} (ht : tabTo E k i j = true) : tabTo E m i j = true := by
  induction m with
  | zero => have : k = 0 := by omega
            subst this; exact ht
  | succ m ih =>
    by_cases e : k = m + 1
    · subst e; exact ht
    · exact tabTo_mono E (ih (by omega))
/-- Of the first k jobs, what leads over one leads on. -/
theorem tabTo_trans (E : List Ed) : ∀ (k a b c : Nat), b < k → tabTo E k a b = true → tabTo E k b c = true → tabTo E k a c = true
  | 0, _, _, _, h, _, _ => by omega
  | k + 1, a, b, c, hb, h1, h2 => by
    have s : ∀ x y, tabTo E (k + 1) x y = true → tabTo E k x y = true ∨ (tabTo E k x k = true ∧ tabTo E k k y = true) := fun x y h => by
      have h' : (tabTo E k x y || (tabTo E k x k && tabTo E k k y)) = true := h
      simpa using h'
    have mk : ∀ x y, (tabTo E k x y = true ∨ (tabTo E k x k = true ∧ tabTo E k k y = true)) → tabTo E (k + 1) x y = true := fun x y h => by
      show (tabTo E k x y || (tabTo E k x k && tabTo E k k y)) = true
      simpa using h
    rcases s _ _ h1 with p | ⟨p1, p2⟩ <;> rcases s _ _ h2 with q | ⟨q1, q2⟩
    · by_cases e : b = k
      · subst e; exact mk _ _ (.inr ⟨p, q⟩)
      · exact mk _ _ (.inl (tabTo_trans E k a b c (by omega) p q))
    · by_cases e : b = k
      · subst e; exact mk _ _ (.inr ⟨p, q2⟩)
      · exact mk _ _ (.inr ⟨tabTo_trans E k a b k (by omega) p q1, q2⟩)
    · by_cases e : b = k
      · subst e; exact mk _ _ (.inr ⟨p1, q⟩)
      · exact mk _ _ (.inr ⟨p1, tabTo_trans E k k b c (by omega) p2 q⟩)
    · exact mk _ _ (.inr ⟨p1, q2⟩)
/-- The table in the midst of a round. -/
def tabMid (E : List Ed) (k i j a b : Nat) : Bool := if a < i ∨ (a = i ∧ b < j) then tabTo E (k + 1) a b else tabTo E k a b
theorem tabMid_zero (E : List Ed) (k a b : Nat) : tabMid E k 0 0 a b = tabTo E k a b := by
  unfold tabMid; rw [if_neg (by omega)]
theorem tabTo_col (E : List Ed) (k i : Nat) : tabTo E (k + 1) i k = tabTo E k i k := by
  show (tabTo E k i k || (tabTo E k i k && tabTo E k k k)) = _
  cases tabTo E k i k <;> simp
theorem tabTo_row (E : List Ed) (k j : Nat) : tabTo E (k + 1) k j = tabTo E k k j := by
  show (tabTo E k k j || (tabTo E k k k && tabTo E k k j)) = _
  cases tabTo E k k j <;> simp
theorem tabMid_col (E : List Ed) (k i j a : Nat) : tabMid E k i j a k = tabTo E k a k := by
  unfold tabMid; split
  · exact tabTo_col E k a
  · rfl
theorem tabMid_row (E : List Ed) (k i j b : Nat) : tabMid E k i j k b = tabTo E k k b := by
  unfold tabMid; split
  · exact tabTo_row E k b
  · rfl
theorem tabMid_end (E : List Ed) (k i n a b : Nat) (hb : b < n) : tabMid E k i n a b = tabMid E k (i + 1) 0 a b := by
  unfold tabMid
  by_cases h : a < i ∨ (a = i ∧ b < n)
  · rw [if_pos h, if_pos (by omega)]
  · rw [if_neg h, if_neg (by omega)]
theorem tabMid_all (E : List Ed) (k n a b : Nat) (ha : a < n) : tabMid E k n 0 a b = tabTo E (k + 1) a b := by
  unfold tabMid; rw [if_pos (by omega)]
theorem tabMid_yes (E : List Ed) (k i j a b : Nat) (h : (tabTo E k i k && tabTo E k k j) = true) : tabMid E k i (j + 1) a b = if a = i ∧ b = j then true else tabMid E k i j a b := by
  by_cases e : a = i ∧ b = j
  · obtain ⟨rfl, rfl⟩ := e
    rw [if_pos ⟨rfl, rfl⟩]
    unfold tabMid; rw [if_pos (by omega)]
    show (_ || _) = true
    rw [h, Bool.or_true]
  · rw [if_neg e]
    unfold tabMid
    by_cases h' : a < i ∨ (a = i ∧ b < j)
    · rw [if_pos (by omega), if_pos h']
    · rw [if_neg (by omega), if_neg h']
theorem tabMid_no (E : List Ed) (k i j a b : Nat) (h : (tabTo E k i k && tabTo E k k j) = false) : tabMid E k i (j + 1) a b = tabMid E k i j a b := by
  unfold tabMid
  by_cases e : a = i ∧ b = j
  · obtain ⟨rfl, rfl⟩ := e
    rw [if_pos (by omega), if_neg (by omega)]
    show (_ || _) = _
    rw [h, Bool.or_false]
  · by_cases h' : a < i ∨ (a = i ∧ b < j)
    · rw [if_pos (by omega), if_pos h']
    · rw [if_neg (by omega), if_neg h']
/-- What is before what by sets that grow until they stay. -/
def growB (n : Nat) (T : Nat → Nat → Bool) (i j : Nat) : Bool := T i j || (List.range n).any fun m => T i m && T m j
theorem growB_mono {n : Nat} {T : Nat → Nat → Bool} {i j : Nat} (h : T i j = true) : growB n T i j = true := by unfold growB; rw [h]; rfl
theorem growB_iff {n : Nat} {T : Nat → Nat → Bool} {i j : Nat} : growB n T i j = true ↔ T i j = true ∨ ∃ m, m < n ∧ T i m = true ∧ T m j = true := by
  unfold growB; simp [List.any_eq_true]
def growTo (n : Nat) (E : List Ed) : Nat → Nat → Nat → Bool
  | 0 => edB E
  | t + 1 => growB n (growTo n E t)
/-- All pairs are of the first n jobs. -/
def InE (n : Nat) (E : List Ed) : Prop := ∀ i j, edB E i j = true → i < n ∧ j < n
theorem growTo_in {n : Nat} {E : List Ed} (h : InE n E) : ∀ (t i j : Nat), growTo n E t i j = true → i < n ∧ j < n
  | 0, i, j, ht => h i j ht
  | t + 1, i, j, ht => by
    rcases growB_iff.1 ht with h1 | ⟨m, _, h1, h2⟩
    · exact growTo_in h t i j h1
    · exact ⟨(growTo_in h t _ _ h1).1, (growTo_in h t _ _ h2).2⟩
theorem tabTo_in {n : Nat} {E : List Ed} (h : InE n E) : ∀ (k i j : Nat), tabTo E k i j = true → i < n ∧ j < n
  | 0, i, j, ht => h i j ht
  | k + 1, i, j, ht => by
    have ht' : (tabTo E k i j || (tabTo E k i k && tabTo E k k j)) = true := ht
    simp only [Bool.or_eq_true, Bool.and_eq_true] at ht'
    rcases ht' with h1 | ⟨h1, h2⟩
    · exact tabTo_in h k i j h1
    · exact ⟨(tabTo_in h k _ _ h1).1, (tabTo_in h k _ _ h2).2⟩
theorem grow_sound {n : Nat} {E : List Ed} (h : InE n E) : ∀ (t i j : Nat), growTo n E t i j = true → tabB n E i j = true
  | 0, i, j, ht => tabTo_le E (Nat.zero_le n) ht
  | t + 1, i, j, ht => by
    rcases growB_iff.1 ht with h1 | ⟨m, hm, h1, h2⟩
    · exact grow_sound h t i j h1
    · exact tabTo_trans E n i m j hm (grow_sound h t i m h1) (grow_sound h t m j h2)
/-- When they stay, they tell what the table tells. -/
theorem grow_stop {n : Nat} {E : List Ed} (h : InE n E) {t : Nat} (hs : ∀ i j, i < n → j < n → growTo n E (t + 1) i j = growTo n E t i j) : ∀ i j, growTo n E t i j = tabB n E i j := by
  have hE : ∀ t i j, edB E i j = true → growTo n E t i j = true := by
    intro t
    induction t with
    | zero => exact fun _ _ h => h
    | succ t ih => exact fun i j h => growB_mono (ih i j h)
  have hc : ∀ k i j, tabTo E k i j = true → growTo n E t i j = true := by
    intro k
    induction k with
    | zero => exact fun i j h => hE t i j h
    | succ k ih =>
      intro i j hk
      have ht' : (tabTo E k i j || (tabTo E k i k && tabTo E k k j)) = true := hk
      simp only [Bool.or_eq_true, Bool.and_eq_true] at ht'
      rcases ht' with h1 | ⟨h1, h2⟩
      · exact ih i j h1
      · have g1 := ih _ _ h1
        have g2 := ih _ _ h2
        have b1 := growTo_in h t _ _ g1
        have b2 := growTo_in h t _ _ g2
        rw [← hs i j b1.1 b2.2]
        exact growB_iff.2 (.inr ⟨k, b1.2, g1, g2⟩)
  intro i j
  rw [Bool.eq_iff_iff]
  exact ⟨grow_sound h t i j, hc n i j⟩
/-- How many pairs are told. -/
def cntB (n : Nat) (T : Nat → Nat → Bool) : Nat := ((List.range n).map fun i => (List.range n).countP fun j => T i j).sum
theorem countP_le' {p q : Nat → Bool} (h : ∀ x, p x = true → q x = true) : ∀ l : List Nat, l.countP p ≤ l.countP q
  | [] => Nat.le_refl _
  | x :: l => by
    rw [List.countP_cons, List.countP_cons]
    have := countP_le' h l
    by_cases hp : p x = true
    · rw [if_pos hp, if_pos (h x hp)]; omega
    · rw [if_neg hp]; split <;> omega
theorem countP_lt' {p q : Nat → Bool} (h : ∀ x, p x = true → q x = true) {i : Nat} (hp : p i = false) (hq : q i = true) : ∀ l : List Nat, i ∈ l → l.countP p < l.countP q
  | x :: l, hi => by
    rw [List.countP_cons, List.countP_cons]
    rcases List.mem_cons.1 hi with rfl | hi
    · have := countP_le' h l
      rw [hp, hq]; simp; omega
    · have := countP_lt' h hp hq l hi
      by_cases hp' : p x = true
      · rw [if_pos hp', if_pos (h x hp')]; omega
      · rw [if_neg hp']; split <;> omega
theorem sum_le_map {f g : Nat → Nat} (h : ∀ x, f x ≤ g x) : ∀ l : List Nat, (l.map f).sum ≤ (l.map g).sum
  | [] => Nat.le_refl _
  | x :: l => by have := sum_le_map h l; have := h x; simp; omega
theorem sum_lt_map {f g : Nat → Nat} (h : ∀ x, f x ≤ g x) {i : Nat} (hi : f i < g i) : ∀ l : List Nat, i ∈ l → (l.map f).sum < (l.map g).sum
  | x :: l, hm => by
    simp only [List.map_cons, List.sum_cons]
    rcases List.mem_cons.1 hm with rfl | hm
    · have := sum_le_map h l; omega
    · have := sum_lt_map h hi l hm; have := h x; omega
theorem cntB_le (n : Nat) (T : Nat → Nat → Bool) : cntB n T ≤ n * n := by
  unfold cntB
  have h : ∀ l : List Nat, (l.map fun i => (List.range n).countP fun j => T i j).sum ≤ l.length * n := by
    intro l
    induction l with
    | nil => simp
    | cons x l ih =>
      have := List.countP_le_length (p := fun j => T x j) (l := List.range n)
      simp only [List.map_cons, List.sum_cons, List.length_cons, Nat.succ_mul]
      simp only [List.length_range] at this
      omega
  simpa using h (List.range n)
/-- As long as they do not stay, they grow. -/
theorem grow_more {n : Nat} {T : Nat → Nat → Bool} (h : ¬ ∀ i j, i < n → j < n → growB n T i j = T i j) : cntB n T < cntB n (growB n T) := by
  have hm : ∀ i j, T i j = true → growB n T i j = true := fun i j => growB_mono
  obtain ⟨i, hi⟩ := Classical.not_forall.1 h
  obtain ⟨j, hj⟩ := Classical.not_forall.1 hi
  have hin : i < n := by
    by_cases e : i < n
    · exact e
    · exact absurd (fun a _ => absurd a e) hj
  have hjn : j < n := by
    by_cases e : j < n
    · exact e
    · exact absurd (fun _ b => absurd b e) hj
  have hne : growB n T i j ≠ T i j := fun e => hj fun _ _ => e
  have hT : T i j = false := by
    cases ht : T i j
    · rfl
    · exact absurd ((hm i j ht).trans ht.symm) hne
  have hG : growB n T i j = true := by
    cases hg : growB n T i j
    · exact absurd (hg.trans hT.symm) hne
    · rfl
  have h2 : ((List.range n).countP fun y => T i y) < ((List.range n).countP fun y => growB n T i y) := countP_lt' (fun y => hm i y) (i := j) hT hG (List.range n) (List.mem_range.2 hjn)
  exact sum_lt_map (f := fun i => (List.range n).countP fun j => T i j) (g := fun i => (List.range n).countP fun j => growB n T i j) (fun x => countP_le' (fun y => hm x y) _) (i := i) h2 (List.range n) (List.mem_range.2 hin)
/-- A precedence of n jobs. -/
def irrB (n : Nat) (E : List Ed) (k : Nat) : Bool := (List.range k).all fun i => !tabB n E i i
theorem irrB_succ (n : Nat) (E : List Ed) (k : Nat) : irrB n E (k + 1) = (irrB n E k && !tabB n E k k) := by unfold irrB; rw [List.range_succ, List.all_append]; simp
theorem irrB_bad {n : Nat} {E : List Ed} {k m : Nat} (h : k < m) (hk : tabB n E k k = true) : irrB n E m = false := by
  unfold irrB; rw [List.all_eq_false]; exact ⟨k, List.mem_range.2 h, by rw [hk]; simp⟩
def pairsB (n : Int) (E : List Ed) : Bool := decide (0 ≤ n ∧ n ≤ 8) && (decide (E.length ≤ 28) && pairsTo n E E.length)
def precB (n : Int) (E : List Ed) : Bool := pairsB n E && irrB n.toNat E n.toNat
theorem pairs_out {n : Int} {E : List Ed} (h : pairsB n E = true) : 0 ≤ n ∧ n ≤ 8 ∧ E.length ≤ 28 ∧ pairsTo n E E.length = true := by
  unfold pairsB at h
  simp only [Bool.and_eq_true, decide_eq_true_eq] at h
  exact ⟨h.1.1, h.1.2, h.2.1, h.2.2⟩
theorem edB_iff {E : List Ed} {i j : Nat} : edB E i j = true ↔ ((i : Int), (j : Int)) ∈ E := by unfold edB; simp
theorem pairs_in {n : Int} {E : List Ed} (h : pairsB n E = true) : InE n.toNat E := by
  obtain ⟨h0, h8, hl, hp⟩ := pairs_out h
  intro i j he
  obtain ⟨k, hk, e⟩ := List.mem_iff_getElem.1 (edB_iff.1 he)
  have := pairsTo_at hp hk
  unfold edOk at this
  simp only [Bool.and_eq_true, decide_eq_true_eq] at this
  rw [getD_at E (0, 0) hk, e] at this
  simp only at this
  omega
/-- A pair of a job with itself is a cycle. -/
theorem prec_self {n : Int} {E : List Ed} {k : Nat} (hk : k < E.length) (he : E[k].1 = E[k].2) : precB n E = false := by
  cases h : pairsB n E
  · unfold precB; rw [h]; rfl
  · have hin := pairs_in h
    obtain ⟨h0, h8, hl, hp⟩ := pairs_out h
    have hk' := pairsTo_at hp hk
    unfold edOk at hk'
    simp only [Bool.and_eq_true, decide_eq_true_eq] at hk'
    rw [getD_at E (0, 0) hk] at hk'
    obtain ⟨m, hm⟩ : ∃ m : Nat, E[k].1 = (m : Int) := ⟨E[k].1.toNat, by omega⟩
    have hed : edB E m m = true := edB_iff.2 (by
      have : E[k] = ((m : Int), (m : Int)) := Prod.ext hm (by rw [← he, hm])
      rw [← this]; exact List.getElem_mem hk)
    unfold precB
    rw [irrB_bad (k := m) (hin m m hed).1 (tabTo_le E (Nat.zero_le _) hed), Bool.and_false]
end Go.Proofs.YtjemjdlaoebffaaDoor
