/- Plain words for strictly ascending lists of jobs, and the sets that they are. -/
import Derived.Test.YtjemjdlaoebffaaDoorTmp
import Derived.Test.YtjemjdlaoebffaaDoorBitP
import Derived.Test.YtjemjdlaoebffaaDoorEndsO
namespace Go.Proofs.YtjemjdlaoebffaaDoor
def inRis (s : List Int) (x : Nat) : Bool := s.contains (x : Int)
/-- Strictly ascending, of n jobs. -/
def risOk (n : Nat) (s : List Int) (i : Nat) : Bool := decide (0 ≤ s.getD i 0 ∧ s.getD i 0 < n) && (decide (i = 0) || decide (s.getD (i - 1) 0 < s.getD i 0))
def risTo (n : Nat) (s : List Int) (k : Nat) : Bool := (List.range k).all (risOk n s)
def risL (n : Nat) (s : List Int) : Bool := risTo n s s.length
theorem risTo_bad {n : Nat} {s : List Int} {k m : Nat} (h : k < m) (hk : risOk n s k = false) : risTo n s m = false := by
  unfold risTo; rw [List.all_eq_false]; exact ⟨k, List.mem_range.2 h, by rw [hk]; simp⟩
theorem risTo_succ (n : Nat) (s : List Int) (k : Nat) : risTo n s (k + 1) = (risTo n s k && risOk n s k) := by
  unfold risTo; rw [List.range_succ, List.all_append]; simp
theorem risTo_at {n : Nat} {s : List Int} {k m : Nat} (h : risTo n s m = true) (hk : k < m) : risOk n s k = true := by
  unfold risTo at h; exact List.all_eq_true.1 h k (List.mem_range.2 hk)
/-- Such a list is the numbers of 0..n-1 that are in it. -/
theorem ris_nat {n : Nat} {s : List Int} (h : risL n s = true) : s = ((List.range n).filter (inRis s)).map Int.ofNat := by
  have hb : ∀ k (hk : k < s.length), 0 ≤ s[k] ∧ s[k] < n := fun k hk => by
    have := risTo_at h hk
    unfold risOk at this
    simp only [Bool.and_eq_true, decide_eq_true_eq] at this
    rw [List.getD_eq_getElem?_getD, List.getElem?_eq_getElem hk] at this
    exact this.1
  have hst : ∀ k (hk : k + 1 < s.length), s[k]'(by omega) < s[k + 1] := fun k hk => by
    have := risTo_at h hk
    unfold risOk at this
    simp only [Bool.and_eq_true, Bool.or_eq_true, decide_eq_true_eq, Nat.add_sub_cancel] at this
    rw [List.getD_eq_getElem?_getD, List.getD_eq_getElem?_getD, List.getElem?_eq_getElem hk, List.getElem?_eq_getElem (show k < s.length by omega)] at this
    simp only [Option.getD_some] at this
    omega
  have hpw : s.Pairwise (· < ·) := by
    rw [List.pairwise_iff_getElem]
    intro i j hi hj hij
    have : ∀ d, ∀ (hd : i + d + 1 < s.length), s[i] < s[i + d + 1] := by
      intro d
      induction d with
      | zero => exact fun hd => hst i hd
      | succ d ih => exact fun hd => Int.lt_trans (ih (by omega)) (hst (i + d + 1) hd)
    have h2 := this (j - i - 1) (by omega)
    simp only [show i + (j - i - 1) + 1 = j by omega] at h2
    exact h2
  have hn : s = (s.map Int.toNat).map Int.ofNat := by
    rw [List.map_map]
    conv => lhs; rw [← List.map_id s]
    refine List.map_congr_left fun x hx => ?_
    obtain ⟨k, hk, rfl⟩ := List.getElem_of_mem hx
    have := hb k hk
    simp only [id, Function.comp, Int.ofNat_eq_natCast]
    omega
  conv => lhs; rw [hn]
  congr 1
  have h1 : (s.map Int.toNat).Pairwise (· < ·) := by
    rw [List.pairwise_iff_getElem]
    intro i j hi hj hij
    rw [List.length_map] at hi hj
    have a := List.pairwise_iff_getElem.1 hpw i j hi hj hij
    have b := hb i hi
    rw [List.getElem_map, List.getElem_map]
    omega
  refine strict_ext2 h1 (List.Pairwise.filter _ List.pairwise_lt_range) fun x => ?_
  rw [List.mem_filter, List.mem_range, List.mem_map]
  unfold inRis
  constructor
  · rintro ⟨y, hy, rfl⟩
    obtain ⟨k, hk, rfl⟩ := List.getElem_of_mem hy
    have b := hb k hk
    refine ⟨by omega, ?_⟩
    rw [List.contains_iff_mem, show ((s[k].toNat : Nat) : Int) = s[k] by omega]
    exact List.getElem_mem _
  · rintro ⟨h1, h2⟩
    exact ⟨(x : Int), by rwa [List.contains_iff_mem] at h2, by omega⟩
theorem risOk_bad {n : Nat} {s : List Int} {k : Nat} (hk : k < s.length) (h : ¬ (0 ≤ s[k] ∧ s[k] < n)) : risOk n s k = false := by
  unfold risOk; rw [getD_at s 0 hk, decide_eq_false h, Bool.false_and]
theorem risOk_back {n : Nat} {s : List Int} {k : Nat} (hk : k + 1 < s.length) (h : s[k + 1] ≤ s[k]'(by omega)) : risOk n s (k + 1) = false := by
  unfold risOk
  rw [getD_at s 0 hk, Nat.add_sub_cancel, getD_at s 0 (show k < s.length by omega), decide_eq_false (show ¬ k + 1 = 0 by omega), decide_eq_false (show ¬ (s[k]'(by omega) < s[k + 1]) by omega), Bool.or_false, Bool.and_false]
theorem risOk_first {n : Nat} {s : List Int} (hk : 0 < s.length) (h : (0 : Int) ≤ s[0] ∧ s[0] < n) : risOk n s 0 = true := by
  unfold risOk; rw [getD_at s 0 hk, decide_eq_true h]; rfl
theorem risOk_next {n : Nat} {s : List Int} {k : Nat} (hk : k + 1 < s.length) (h : 0 ≤ s[k + 1] ∧ s[k + 1] < n) (h2 : s[k]'(by omega) < s[k + 1]) : risOk n s (k + 1) = true := by
  unfold risOk
  rw [getD_at s 0 hk, Nat.add_sub_cancel, getD_at s 0 (show k < s.length by omega), decide_eq_true h, decide_eq_true h2, Bool.or_true]; rfl
theorem risL_step {n : Nat} {s : List Int} {k : Nat} (h : risTo n s k = true) (h2 : risOk n s k = true) : risTo n s (k + 1) = true := by rw [risTo_succ, h, h2]; rfl
theorem ris8 {n : Nat} {s : List Int} (h : risL n s = true) (hn : n ≤ 8) : risL 8 s = true := by
  unfold risL risTo at *
  rw [List.all_eq_true] at *
  intro k hk
  have h1 := h k hk
  unfold risOk at *
  simp only [Bool.and_eq_true, decide_eq_true_eq] at *
  exact ⟨⟨h1.1.1, by have := h1.1.2; omega⟩, h1.2⟩
theorem ris_at {n : Nat} {s : List Int} (h : risL n s = true) {k : Nat} (hk : k < s.length) : 0 ≤ s[k] ∧ s[k] < n := by
  have h1 := risTo_at h hk
  unfold risOk at h1
  simp only [Bool.and_eq_true, decide_eq_true_eq] at h1
  rw [getD_at s 0 hk] at h1
  exact h1.1
/-- The set of the first k numbers of a list. -/
def numTo (s : List Int) : Nat → Nat
  | 0 => 0
  | k + 1 => addB (numTo s k) (s.getD k 0).toNat
def numS (s : List Int) : Nat := numTo s s.length
theorem numTo_lt {s : List Int} (h : risL 8 s = true) : ∀ k, k ≤ s.length → numTo s k < 256
  | 0, _ => by unfold numTo; omega
  | k + 1, hk => by
    have h1 := ris_at h (show k < s.length by omega)
    unfold numTo
    rw [getD_at s 0 (by omega)]
    exact add_lt (numTo_lt h k (by omega)) (by omega)
theorem numTo_bit {s : List Int} (h : risL 8 s = true) (i : Nat) : ∀ k, k ≤ s.length → ((numTo s k).testBit i = true ↔ (i : Int) ∈ s.take k)
  | 0, _ => by unfold numTo; simp
  | k + 1, hk => by
    have h1 := ris_at h (show k < s.length by omega)
    have ih := numTo_bit h i k (by omega)
    unfold numTo
    rw [bit_add, List.take_succ_eq_append_getElem (by omega), List.mem_append, Bool.or_eq_true, ih, getD_at s 0 (by omega), List.mem_singleton, decide_eq_true_eq]
    constructor
    · rintro (g | g)
      · exact .inl g
      · exact .inr (by omega)
    · rintro (g | g)
      · exact .inl g
      · exact .inr (by omega)
theorem numS_lt {s : List Int} (h : risL 8 s = true) : numS s < 256 := numTo_lt h _ (Nat.le_refl _)
theorem numS_mem {s : List Int} (h : risL 8 s = true) : natI (memB (numS s)) = s := by
  have hs := ris_nat h
  conv => rhs; rw [hs]
  unfold natI memB
  have hf : (List.range 8).filter (fun i => (numS s).testBit i) = (List.range 8).filter (inRis s) := by
    refine List.filter_congr fun i _ => ?_
    have h1 := numTo_bit h i s.length (Nat.le_refl _)
    rw [List.take_length] at h1
    unfold inRis
    cases hb : s.contains (i : Int)
    · cases hc : (numS s).testBit i
      · rfl
      · have := h1.1 hc
        rw [← List.contains_iff_mem, hb] at this
        cases this
    · exact h1.2 (List.contains_iff_mem.1 hb)
  rw [hf]
theorem numS_in {n : Nat} {s : List Int} (h : risL n s = true) (hn : n ≤ 8) {k : Nat} (hk : (numS s).testBit k = true) : k < n := by
  have h1 := numTo_bit (ris8 h hn) k s.length (Nat.le_refl _)
  rw [List.take_length] at h1
  obtain ⟨i, hi, he⟩ := List.getElem_of_mem (h1.1 hk)
  have := ris_at h hi
  omega
theorem lats0_t (js : List J) (x : Nat) : ((latsL js 0).getD x j0).t = (js.getD x j0).t ∧ ((latsL js 0).getD x j0).d = (js.getD x j0).d := by
  by_cases hx : x < js.length
  · rw [latsL_getD js 0 x hx]; exact ⟨rfl, Int.add_zero _⟩
  · have e1 : (latsL js 0).getD x j0 = j0 := by rw [List.getD_eq_getElem?_getD, List.getElem?_eq_none (by rw [latsL_len]; omega)]; rfl
    have e2 : js.getD x j0 = j0 := by rw [List.getD_eq_getElem?_getD, List.getElem?_eq_none (by omega)]; rfl
    rw [e1, e2]; exact ⟨rfl, rfl⟩
theorem gonTo_zero (js : List J) (p : List Nat) : ∀ k, gonTo (latsL js 0) p k = gonTo js p k
  | 0 => rfl
  | k + 1 => by
    show gonTo (latsL js 0) p k + _ = gonTo js p k + _
    rw [gonTo_zero js p k, (lats0_t js _).1]
theorem timly_zero (js : List J) (p : List Nat) : timlyB (latsL js 0) p = timlyB js p := by
  unfold timlyB
  rw [decide_eq_decide]
  constructor
  · intro h k hk
    have := h k hk
    rw [gonTo_zero, (lats0_t js _).2] at this
    exact this
  · intro h k hk
    rw [gonTo_zero, (lats0_t js _).2]
    exact h k hk
theorem timly_lat {js : List J} (hok : ∀ j ∈ js, okJ j = true) (h0 : ∀ j ∈ js, j.r = 0) (l : List Nat) (hl : ∀ x ∈ l, x < js.length) : timlyB js (dueL js l) = decide (latL js (dueL js l) ≤ 0) := by
  rw [← timly_zero js (dueL js l), ← dueL_later js 0 l hl]
  rw [timly_later hok h0 (Int.le_refl 0) l hl, dueL_later js 0 l hl]
/-- IsTimely. -/
def timelyR (js : List J) (s : List Int) : Bool × Bool := if plainL js && risL js.length s then (decide (latL js (dueL js (memB (numS s))) ≤ 0), true) else (false, false)
end Go.Proofs.YtjemjdlaoebffaaDoor
