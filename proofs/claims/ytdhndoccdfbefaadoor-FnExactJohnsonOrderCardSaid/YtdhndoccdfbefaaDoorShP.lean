/- Shops: lists of the times of jobs. -/
import Derived.Test.YtdhndoccdfbefaaDoorArgM
import Derived.Test.YtdhndoccdfbefaaDoorGood
namespace Go.Proofs.YtdhndoccdfbefaaDoor
open Go.RowKit

def mOf : List (List Int) → Nat
  | [] => 1
  | xs :: _ => xs.length
def timesB (m : Nat) (xs : List Int) : Bool := decide (xs.length = m) && xs.all fun x => inB x 0 30
def shopB (xss : List (List Int)) : Bool := decide (xss.length ≤ 8) && decide (1 ≤ mOf xss ∧ mOf xss ≤ 3) && xss.all (timesB (mOf xss))
theorem timesB_mk {m : Nat} {xs : List Int} (h : xs.length = m) (ha : ∀ i (hi : i < xs.length), inB xs[i] 0 30 = true) : timesB m xs = true := by
  unfold timesB
  rw [Bool.and_eq_true, List.all_eq_true]
  refine ⟨decide_eq_true h, fun x hx => ?_⟩
  obtain ⟨i, hi, rfl⟩ := List.mem_iff_getElem.1 hx
  exact ha i hi
theorem timesB_len {m : Nat} {xs : List Int} (h : xs.length ≠ m) : timesB m xs = false := by
  unfold timesB
  rw [decide_eq_false h]; rfl
theorem timesB_bad {m : Nat} {xs : List Int} {x : Int} (hx : x ∈ xs) (h : inB x 0 30 = false) : timesB m xs = false := by
  unfold timesB
  have : xs.all (fun x => inB x 0 30) = false := by
    rw [List.all_eq_false]; exact ⟨x, hx, by rw [h]; simp⟩
  rw [this, Bool.and_false]
theorem timesB_out {m : Nat} {xs : List Int} (h : timesB m xs = true) : xs.length = m ∧ ∀ i (hi : i < xs.length), 0 ≤ xs[i] ∧ xs[i] ≤ 30 := by
  unfold timesB at h
  rw [Bool.and_eq_true, List.all_eq_true] at h
  exact ⟨of_decide_eq_true h.1, fun i hi => inB_out (h.2 _ (List.getElem_mem hi))⟩
theorem timesB_eq (m : Nat) (xs : List Int) (h : xs.length = m) : timesB m xs = xs.all fun x => inB x 0 30 := by
  unfold timesB
  rw [decide_eq_true h, Bool.true_and]
theorem shopB_bad {xss : List (List Int)} {xs : List Int} (hx : xs ∈ xss) (h : timesB (mOf xss) xs = false) : shopB xss = false := by
  unfold shopB
  have : xss.all (timesB (mOf xss)) = false := by
    rw [List.all_eq_false]; exact ⟨xs, hx, by rw [h]; simp⟩
  rw [this, Bool.and_false]
theorem shopB_all {xss : List (List Int)} (h : ∀ i (hi : i < xss.length), i < xss.length → timesB (mOf xss) xss[i] = true) : shopB xss = (decide (xss.length ≤ 8) && decide (1 ≤ mOf xss ∧ mOf xss ≤ 3)) := by
  unfold shopB
  have : xss.all (timesB (mOf xss)) = true := by
    rw [List.all_eq_true]
    intro x hx
    obtain ⟨i, hi, rfl⟩ := List.mem_iff_getElem.1 hx
    exact h i hi hi
  rw [this, Bool.and_true]
theorem shopB_len {xss : List (List Int)} (h : ¬ xss.length ≤ 8) : shopB xss = false := by
  unfold shopB
  rw [decide_eq_false h]; rfl
theorem shopB_m {xss : List (List Int)} (h : ¬ (1 ≤ mOf xss ∧ mOf xss ≤ 3)) : shopB xss = false := by
  unfold shopB
  rw [decide_eq_false h, Bool.and_false]; rfl
/-- What a shop is. -/
structure Shop (xss : List (List Int)) : Prop where
  n8 : xss.length ≤ 8
  m1 : 1 ≤ mOf xss
  m3 : mOf xss ≤ 3
  len : ∀ i (hi : i < xss.length), xss[i].length = mOf xss
  low : ∀ i (hi : i < xss.length) k (hk : k < xss[i].length), 0 ≤ xss[i][k]
  high : ∀ i (hi : i < xss.length) k (hk : k < xss[i].length), xss[i][k] ≤ 30
theorem shopB_out {xss : List (List Int)} (h : shopB xss = true) : Shop xss := by
  unfold shopB at h
  rw [Bool.and_eq_true, Bool.and_eq_true, List.all_eq_true] at h
  have hm := of_decide_eq_true h.1.2
  have ha := fun i (hi : i < xss.length) => timesB_out (h.2 _ (List.getElem_mem hi))
  exact ⟨of_decide_eq_true h.1.1, hm.1, hm.2, fun i hi => (ha i hi).1, fun i hi k hk => ((ha i hi).2 k hk).1, fun i hi k hk => ((ha i hi).2 k hk).2⟩
theorem shop_mk {xss : List (List Int)} (h : Shop xss) : shopB xss = true := by
  rw [shopB_all fun i hi _ => timesB_mk (h.len i hi) fun k hk => inB_yes (h.low i hi k hk) (h.high i hi k hk)]
  rw [decide_eq_true h.n8, decide_eq_true ⟨h.m1, h.m3⟩]; rfl
theorem rowsTo_step {xss : List (List Int)} {m k : Nat} (h : ∀ i (hi : i < xss.length), i < k → timesB m xss[i] = true) (hk : k < xss.length) (ho : timesB m xss[k] = true) : ∀ i (hi : i < xss.length), i < k + 1 → timesB m xss[i] = true := by
  intro i hi hik
  by_cases e : i = k
  · subst e; exact ho
  · exact h i hi (by omega)
theorem numsTo_step {xs : List Int} {k : Nat} (h : ∀ i (hi : i < xs.length), i < k → inB xs[i] 0 30 = true) (hk : k < xs.length) (ho : inB xs[k] 0 30 = true) : ∀ i (hi : i < xs.length), i < k + 1 → inB xs[i] 0 30 = true := by
  intro i hi hik
  by_cases e : i = k
  · subst e; exact ho
  · exact h i hi (by omega)
/-- Lists looked at one by one. -/
theorem lt_step {α : Type} {l : List α} (p : α → Bool) {k : Nat} (h : ∀ i (hi : i < l.length), i < k → p l[i] = true) (hk : k < l.length) (ho : p l[k] = true) : ∀ i (hi : i < l.length), i < k + 1 → p l[i] = true := by
  intro i hi hik
  by_cases e : i = k
  · subst e; exact ho
  · exact h i hi (by omega)
theorem la_bad {α : Type} {l : List α} (p : α → Bool) {x : α} (hx : x ∈ l) (h : p x = false) : l.all p = false := by
  rw [List.all_eq_false]; exact ⟨x, hx, by rw [h]; simp⟩
theorem la_good {α : Type} {l : List α} (p : α → Bool) (h : ∀ i (hi : i < l.length), p l[i] = true) : l.all p = true := by
  rw [List.all_eq_true]
  intro x hx
  obtain ⟨i, hi, rfl⟩ := List.mem_iff_getElem.1 hx
  exact h i hi
theorem mOf_cons (xs : List Int) (xss : List (List Int)) : mOf (xs :: xss) = xs.length := rfl
theorem mOf_le (xss : List (List Int)) : mOf xss ≤ totL xss + 1 := by
  cases xss with
  | nil => simp [mOf]
  | cons x l => simp [mOf, totL]; omega
end Go.Proofs.YtdhndoccdfbefaaDoor
