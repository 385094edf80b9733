/- Plain words: what is before what, as sets that grow; extensions. -/
import Derived.Test.YtjemjdlaoebffaaDoorBitP
namespace Go.Proofs.YtjemjdlaoebffaaDoor
/-- The jobs before a job. -/
def befN (n : Nat) (T : Nat → Nat → Bool) (j : Nat) : Nat := bitsN n fun i => T i j
theorem bef_lt {n : Nat} (hn : n ≤ 8) (T : Nat → Nat → Bool) (j : Nat) : befN n T j < 256 := bits_lt hn _
theorem bef_bit (n : Nat) (T : Nat → Nat → Bool) (j i : Nat) : (befN n T j).testBit i = (decide (i < n) && T i j) := bits_bit n _ i
/-- What is before at least one of a set. -/
def orGo (b : Nat → Nat) (l : List Nat) (a : Nat) : Nat := l.foldl (fun a j => a ||| b j) a
def orAll (b : Nat → Nat) (s : Nat) : Nat := orGo b (memB s) 0
theorem orGo_bit (b : Nat → Nat) (i : Nat) : ∀ (l : List Nat) (a : Nat), (orGo b l a).testBit i = (a.testBit i || l.any fun j => (b j).testBit i)
  | [], a => by simp [orGo]
  | j :: l, a => by
    show (orGo b l (a ||| b j)).testBit i = _
    rw [orGo_bit b i l, Nat.testBit_or, List.any_cons, Bool.or_assoc]
theorem orGo_lt {b : Nat → Nat} : ∀ (l : List Nat) (a : Nat), a < 256 → (∀ j ∈ l, b j < 256) → orGo b l a < 256
  | [], _, h, _ => h
  | j :: l, _, h, hb => orGo_lt l _ (or_lt h (hb j List.mem_cons_self)) fun k hk => hb k (List.mem_cons_of_mem _ hk)
theorem orAll_lt {b : Nat → Nat} (s : Nat) (hb : ∀ j, j < 8 → b j < 256) : orAll b s < 256 := orGo_lt _ _ (by decide) fun j hj => hb j (List.mem_range.1 (List.mem_filter.1 hj).1)
theorem orAll_bit (b : Nat → Nat) {s : Nat} (hs : s < 256) (i : Nat) : (orAll b s).testBit i = true ↔ ∃ j, s.testBit j = true ∧ (b j).testBit i = true := by
  unfold orAll
  rw [orGo_bit, Nat.zero_testBit, Bool.false_or, List.any_eq_true]
  constructor
  · rintro ⟨j, hj, h⟩; exact ⟨j, (memB_mem hs).1 hj, h⟩
  · rintro ⟨j, hj, h⟩; exact ⟨j, (memB_mem hs).2 hj, h⟩
/-- One round of growing. -/
theorem grow_bits {n : Nat} (hn : n ≤ 8) (T : Nat → Nat → Bool) (j : Nat) : befN n T j ||| orAll (befN n T) (befN n T j) = befN n (growB n T) j := by
  refine set_ext (or_lt (bef_lt hn T j) (orAll_lt _ fun _ _ => bef_lt hn T _)) (bef_lt hn _ j) fun i _ => ?_
  rw [Nat.testBit_or, Bool.eq_iff_iff, Bool.or_eq_true, orAll_bit _ (bef_lt hn T j), bef_bit, bef_bit, Bool.and_eq_true, Bool.and_eq_true, decide_eq_true_eq, growB_iff]
  constructor
  · rintro (⟨h1, h2⟩ | ⟨m, h1, h2⟩)
    · exact ⟨h1, .inl h2⟩
    · rw [bef_bit, Bool.and_eq_true, decide_eq_true_eq] at h1 h2
      exact ⟨h2.1, .inr ⟨m, h1.1, h2.2, h1.2⟩⟩
  · rintro ⟨h1, h2 | ⟨m, h2, h3, h4⟩⟩
    · exact .inl ⟨h1, h2⟩
    · refine .inr ⟨m, ?_, ?_⟩
      · rw [bef_bit, Bool.and_eq_true, decide_eq_true_eq]; exact ⟨h2, h4⟩
      · rw [bef_bit, Bool.and_eq_true, decide_eq_true_eq]; exact ⟨h1, h3⟩
/-- The sets stay just when what they tell stays. -/
theorem grow_same {n : Nat} (T U : Nat → Nat → Bool) (h : ∀ j, j < n → befN n T j = befN n U j) : ∀ i j, i < n → j < n → T i j = U i j := fun i j hi hj => by
  have := congrArg (fun s => s.testBit i) (h j hj)
  simp only [bef_bit, decide_eq_true hi, Bool.true_and] at this
  exact this
/-- The pairs of the first k jobs with others. -/
def clsTo (n : Nat) (T : Nat → Nat → Bool) (k : Nat) : List (Int × Int) := (List.range k).flatMap fun i => ((List.range n).filter fun j => T i j).map fun (j : Nat) => ((i : Int), (j : Int))
def rowTo (T : Nat → Nat → Bool) (i m : Nat) : List (Int × Int) := ((List.range m).filter fun j => T i j).map fun (j : Nat) => ((i : Int), (j : Int))
theorem clsTo_succ (n : Nat) (T : Nat → Nat → Bool) (k : Nat) : clsTo n T (k + 1) = clsTo n T k ++ rowTo T k n := by
  unfold clsTo rowTo; rw [List.range_succ, List.flatMap_append]; simp
theorem rowTo_succ (T : Nat → Nat → Bool) (i m : Nat) : rowTo T i (m + 1) = if T i m then rowTo T i m ++ [((i : Int), (m : Int))] else rowTo T i m := by
  unfold rowTo
  rw [List.range_succ, List.filter_append, List.map_append]
  by_cases h : T i m = true
  · rw [if_pos h, List.filter_cons, if_pos h]; rfl
  · rw [if_neg h, List.filter_cons, if_neg h]; simp
theorem rowTo_len (T : Nat → Nat → Bool) (i m : Nat) : (rowTo T i m).length ≤ m := by
  unfold rowTo
  rw [List.length_map]
  have := List.length_filter_le (fun j => T i j) (List.range m)
  rwa [List.length_range] at this
theorem clsTo_len (n : Nat) (T : Nat → Nat → Bool) : ∀ k, (clsTo n T k).length ≤ k * n
  | 0 => by simp [clsTo]
  | k + 1 => by
    have h1 := clsTo_len n T k
    have h2 := rowTo_len T k n
    rw [clsTo_succ, List.length_append, Nat.add_mul]
    omega
def closL (n : Nat) (E : List Ed) : List (Int × Int) := clsTo n (tabB n E) n
/-- Between the jobs of a pair there is none. -/
def directB (n : Nat) (E : List Ed) (i j : Nat) : Bool := tabB n E i j && !((List.range n).any fun k => tabB n E i k && tabB n E k j)
def reduL (n : Nat) (E : List Ed) : List (Int × Int) := clsTo n (directB n E) n
theorem clsTo_filter (n : Nat) (T : Nat → Nat → Bool) (q : Nat → Nat → Bool) : ∀ k, (clsTo n T k).filter (fun e => q e.1.toNat e.2.toNat) = clsTo n (fun i j => T i j && q i j) k
  | 0 => rfl
  | k + 1 => by
    rw [clsTo_succ, clsTo_succ, List.filter_append, clsTo_filter n T q k]
    congr 1
    unfold rowTo
    rw [List.filter_map, List.filter_filter]
    congr 1
    refine List.filter_congr fun j _ => ?_
    simp [Function.comp, Bool.and_comm]
/-- An order keeps pairs if each job's place is behind those before it. -/
def keepsB (n : Nat) (E : List Ed) (p : List Nat) (k : Nat) : Bool := (List.range n).all fun i => !(tabB n E i (p.getD k 0)) || (p.take k).contains i
def extB (n : Nat) (E : List Ed) (p : List Nat) : Bool := (List.range p.length).all (keepsB n E p)
theorem idx_lt {p : List Nat} (hd : p.Nodup) {k i : Nat} (hk : k < p.length) (hi : i < p.length) : (p[i] ∈ p.take k ↔ i < k) := by
  constructor
  · intro h
    obtain ⟨m, hm, e⟩ := List.getElem_of_mem h
    rw [List.getElem_take] at e
    have hmk : m < k := by simp at hm; omega
    have := (List.getElem_inj hd (h₀ := by omega) (h₁ := hi)).1 e
    omega
  · intro h
    refine List.mem_iff_getElem.2 ⟨i, by simp; omega, ?_⟩
    rw [List.getElem_take]
/-- It is enough to look at the pairs that are told. -/
theorem ext_edges {n : Nat} {E : List Ed} (hin : InE n E) {p : List Nat} (hp : p.Perm (List.range n)) : extB n E p = true ↔ ∀ a b, edB E a b = true → ∀ i j (hi : i < p.length) (hj : j < p.length), p[i] = a → p[j] = b → i < j := by
  have hd := perm_nodup hp
  have hl : p.length = n := by simpa using hp.length_eq
  constructor
  · intro h a b he i j hi hj hia hjb
    unfold extB at h
    have h1 := List.all_eq_true.1 h j (List.mem_range.2 hj)
    unfold keepsB at h1
    have ha := (hin a b he).1
    have h2 := List.all_eq_true.1 h1 a (List.mem_range.2 ha)
    rw [getD_at p 0 hj, hjb] at h2
    have ht : tabB n E a b = true := tabTo_le E (Nat.zero_le n) he
    rw [ht] at h2
    simp only [Bool.not_true, Bool.false_or, List.contains_iff_mem] at h2
    rw [← hia] at h2
    exact (idx_lt hd hj hi).1 h2
  · intro h
    have key : ∀ k a b, tabTo E k a b = true → ∀ i j (hi : i < p.length) (hj : j < p.length), p[i] = a → p[j] = b → i < j := by
      intro k
      induction k with
      | zero => exact fun a b he => h a b he
      | succ k ih =>
        intro a b ht i j hi hj hia hjb
        have ht' : (tabTo E k a b || (tabTo E k a k && tabTo E k k b)) = true := ht
        simp only [Bool.or_eq_true, Bool.and_eq_true] at ht'
        rcases ht' with h1 | ⟨h1, h2⟩
        · exact ih a b h1 i j hi hj hia hjb
        · have hkn := (tabTo_in hin k a k h1).2
          obtain ⟨m, hm, hmk⟩ := List.getElem_of_mem (perm_mem hp hkn)
          have := ih a k h1 i m hi hm hia hmk
          have := ih k b h2 m j hm hj hmk hjb
          omega
    unfold extB
    refine List.all_eq_true.2 fun j hj => ?_
    have hj' := List.mem_range.1 hj
    unfold keepsB
    refine List.all_eq_true.2 fun a ha => ?_
    rw [getD_at p 0 hj']
    cases ht : tabB n E a p[j]
    · rfl
    · have han := List.mem_range.1 ha
      obtain ⟨i, hi, hia⟩ := List.getElem_of_mem (perm_mem hp han)
      have := key n a p[j] ht i j hi hj' hia rfl
      simp only [Bool.not_true, Bool.false_or, List.contains_iff_mem]
      rw [← hia]
      exact (idx_lt hd hj' hi).2 this
end Go.Proofs.YtjemjdlaoebffaaDoor
