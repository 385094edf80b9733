/- Plain words for sets of at most eight jobs, as numbers: a job is in one if its bit is 1. -/
import Derived.Test.YtjemjdlaoebffaaDoorPrecP
namespace Go.Proofs.YtjemjdlaoebffaaDoor
def addB (s j : Nat) : Nat := s ||| 2 ^ j
def subB (s j : Nat) : Nat := s &&& (18446744073709551615 ^^^ 2 ^ j)
def minusB (s t : Nat) : Nat := s &&& (18446744073709551615 ^^^ t)
theorem bit_add (s j i : Nat) : (addB s j).testBit i = (s.testBit i || decide (i = j)) := by
  unfold addB
  rw [Nat.testBit_or, Nat.testBit_two_pow]
  congr 1
  rw [decide_eq_decide]
  exact eq_comm
theorem ones_bit (i : Nat) : (18446744073709551615 : Nat).testBit i = decide (i < 64) := by
  have : (18446744073709551615 : Nat) = 2 ^ 64 - 1 := rfl
  rw [this, Nat.testBit_two_pow_sub_one]
theorem bit_minus {s : Nat} (hs : s < 256) (t i : Nat) : (minusB s t).testBit i = (s.testBit i && !t.testBit i) := by
  unfold minusB
  rw [Nat.testBit_and, Nat.testBit_xor, ones_bit]
  by_cases h : i < 64
  · rw [decide_eq_true h, Bool.true_xor]
  · have : s.testBit i = false := Nat.testBit_lt_two_pow (Nat.lt_of_lt_of_le hs (Nat.le_trans (by decide : 256 ≤ 2 ^ 8) (Nat.pow_le_pow_right (by decide) (by omega))))
    rw [this]; rfl
theorem bit_sub {s : Nat} (hs : s < 256) (j i : Nat) : (subB s j).testBit i = (s.testBit i && decide (i ≠ j)) := by
  have := bit_minus hs (2 ^ j) i
  unfold minusB at this
  unfold subB
  rw [this, Nat.testBit_two_pow]
  congr 1
  by_cases h : j = i
  · subst h; simp
  · simp [h, Ne.symm h]
theorem lt_bit {s : Nat} (hs : s < 256) {i : Nat} (h : s.testBit i = true) : i < 8 := by
  by_cases e : i < 8
  · exact e
  · have : s.testBit i = false := Nat.testBit_lt_two_pow (Nat.lt_of_lt_of_le hs (Nat.le_trans (by decide : 256 ≤ 2 ^ 8) (Nat.pow_le_pow_right (by decide) (by omega))))
    rw [this] at h; cases h
theorem add_lt {s j : Nat} (hs : s < 256) (hj : j < 8) : addB s j < 256 := by
  unfold addB
  exact Nat.or_lt_two_pow (n := 8) hs (Nat.pow_lt_pow_right (by decide) hj)
theorem minus_lt {s : Nat} (hs : s < 256) (t : Nat) : minusB s t < 256 := Nat.lt_of_le_of_lt Nat.and_le_left hs
theorem sub_lt {s : Nat} (hs : s < 256) (j : Nat) : subB s j < 256 := Nat.lt_of_le_of_lt Nat.and_le_left hs
theorem or_lt {s t : Nat} (hs : s < 256) (ht : t < 256) : s ||| t < 256 := Nat.or_lt_two_pow (n := 8) hs ht
theorem set_ext {s t : Nat} (hs : s < 256) (ht : t < 256) (h : ∀ i, i < 8 → s.testBit i = t.testBit i) : s = t := by
  apply Nat.eq_of_testBit_eq
  intro i
  by_cases e : i < 8
  · exact h i e
  · have h1 : ∀ u : Nat, u < 256 → u.testBit i = false := fun u hu => Nat.testBit_lt_two_pow (Nat.lt_of_lt_of_le hu (Nat.le_trans (by decide : 256 ≤ 2 ^ 8) (Nat.pow_le_pow_right (by decide) (by omega))))
    rw [h1 s hs, h1 t ht]
/-- The jobs of a set, in ascending order. -/
def memB (s : Nat) : List Nat := (List.range 8).filter fun i => s.testBit i
theorem memB_mem {s i : Nat} (hs : s < 256) : i ∈ memB s ↔ s.testBit i = true := by
  unfold memB
  rw [List.mem_filter, List.mem_range]
  exact ⟨fun h => h.2, fun h => ⟨lt_bit hs h, h⟩⟩
theorem memB_zero : memB 0 = [] := by decide
/-- A set of those that something is true of. -/
def bitsN (n : Nat) (p : Nat → Bool) : Nat := (List.range n).foldl (fun s i => if p i then addB s i else s) 0
theorem bits_succ (n : Nat) (p : Nat → Bool) : bitsN (n + 1) p = if p n then addB (bitsN n p) n else bitsN n p := by
  unfold bitsN; rw [List.range_succ, List.foldl_append]; rfl
theorem bits_lt {n : Nat} (hn : n ≤ 8) (p : Nat → Bool) : bitsN n p < 256 := by
  induction n with
  | zero => exact (by decide : 0 < 256)
  | succ n ih =>
    rw [bits_succ]
    split
    · exact add_lt (ih (by omega)) (by omega)
    · exact ih (by omega)
theorem bits_bit (n : Nat) (p : Nat → Bool) (i : Nat) : (bitsN n p).testBit i = (decide (i < n) && p i) := by
  induction n with
  | zero => simp [bitsN]
  | succ n ih =>
    rw [bits_succ]
    by_cases hp : p n = true
    · rw [if_pos hp, bit_add, ih]
      by_cases e : i = n
      · subst e; simp [hp]
      · rw [decide_eq_false e, Bool.or_false]
        congr 1
        rw [decide_eq_decide]; omega
    · rw [if_neg hp, ih]
      by_cases e : i = n
      · subst e; simp [hp]
      · congr 1
        rw [decide_eq_decide]; omega
theorem bits_eq {s n : Nat} (hs : s < 256) (hn : n ≤ 8) {p : Nat → Bool} (h : ∀ i, i < 8 → s.testBit i = (decide (i < n) && p i)) : s = bitsN n p :=
  set_ext hs (bits_lt hn p) fun i hi => by rw [h i hi, bits_bit]
theorem strict_ext2 : ∀ {l l' : List Nat}, l.Pairwise (· < ·) → l'.Pairwise (· < ·) → (∀ x, x ∈ l ↔ x ∈ l') → l = l'
  | [], [], _, _, _ => rfl
  | [], y :: l', _, _, h => absurd ((h y).2 List.mem_cons_self) (by simp)
  | x :: l, [], _, _, h => absurd ((h x).1 List.mem_cons_self) (by simp)
  | x :: l, y :: l', h1, h2, h => by
    obtain ⟨a1, a2⟩ := List.pairwise_cons.1 h1
    obtain ⟨b1, b2⟩ := List.pairwise_cons.1 h2
    have e : x = y := by
      rcases List.mem_cons.1 ((h x).1 List.mem_cons_self) with e | e
      · exact e
      · rcases List.mem_cons.1 ((h y).2 List.mem_cons_self) with e' | e'
        · exact e'.symm
        · have := b1 x e; have := a1 y e'; omega
    subst e
    have : l = l' := strict_ext2 a2 b2 fun z => by
      constructor
      · intro hz
        rcases List.mem_cons.1 ((h z).1 (List.mem_cons_of_mem _ hz)) with e | e
        · have := a1 z hz; omega
        · exact e
      · intro hz
        rcases List.mem_cons.1 ((h z).2 (List.mem_cons_of_mem _ hz)) with e | e
        · have := b1 z hz; omega
        · exact e
    rw [this]
/-- The least job, and the others. -/
theorem memB_least {s : Nat} (hs : s < 256) (h0 : s ≠ 0) : ∃ j, j < 8 ∧ s.testBit j = true ∧ (∀ i, i < j → s.testBit i = false) ∧ memB s = j :: memB (subB s j) := by
  have hne : memB s ≠ [] := fun e => h0 (set_ext hs (by decide) fun i hi => by
    cases h : s.testBit i
    · simp
    · have := (memB_mem hs).2 h; rw [e] at this; cases this)
  obtain ⟨j, l, hl⟩ := List.exists_cons_of_ne_nil hne
  have hst : (memB s).Pairwise (· < ·) := List.Pairwise.filter _ List.pairwise_lt_range
  have hj : s.testBit j = true := (memB_mem hs).1 (by rw [hl]; exact List.mem_cons_self)
  rw [hl] at hst
  obtain ⟨h1, h2⟩ := List.pairwise_cons.1 hst
  refine ⟨j, lt_bit hs hj, hj, fun i hi => ?_, ?_⟩
  · cases h : s.testBit i
    · rfl
    · have := (memB_mem hs).2 h
      rw [hl] at this
      rcases List.mem_cons.1 this with e | e
      · omega
      · have := h1 i e; omega
  · rw [hl]
    congr 1
    have hs2 := sub_lt hs j
    refine strict_ext2 h2 (List.Pairwise.filter _ List.pairwise_lt_range) fun x => ?_
    rw [memB_mem hs2, bit_sub hs, Bool.and_eq_true, decide_eq_true_eq]
    constructor
    · intro hx
      exact ⟨(memB_mem hs).1 (by rw [hl]; exact List.mem_cons_of_mem _ hx), fun e => by have := h1 x hx; omega⟩
    · rintro ⟨hx, hne⟩
      have := (memB_mem hs).2 hx
      rw [hl] at this
      rcases List.mem_cons.1 this with e | e
      · exact absurd e hne
      · exact e
end Go.Proofs.YtjemjdlaoebffaaDoor
