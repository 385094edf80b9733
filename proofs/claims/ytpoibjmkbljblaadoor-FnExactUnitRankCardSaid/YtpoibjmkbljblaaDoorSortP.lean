/- Plain words for sorting by exchanges: each takes away one inversion. -/
import Derived.Test.YtpoibjmkbljblaaDoorGrpP
namespace Go.Proofs.YtpoibjmkbljblaaDoor
/-- Two neighbors exchanged. -/
def swN (p : List Nat) (i : Nat) : List Nat := (p.set i (p.getD (i + 1) 0)).set (i + 1) (p.getD i 0)
theorem swN_len (p : List Nat) (i : Nat) : (swN p i).length = p.length := by unfold swN; simp
theorem swN_zero (x y : Nat) (b : List Nat) : swN (x :: y :: b) 0 = y :: x :: b := rfl
theorem swN_succ (x : Nat) (xs : List Nat) (i : Nat) : swN (x :: xs) (i + 1) = x :: swN xs i := rfl
theorem swN_perm : ∀ (p : List Nat) (i : Nat), i + 1 < p.length → (swN p i).Perm p
  | [], _, h => by simp at h
  | [_], _, h => by simp at h
  | x :: y :: b, 0, _ => by rw [swN_zero]; exact List.Perm.swap x y b
  | x :: y :: b, i + 1, h => by
    rw [swN_succ]
    exact (swN_perm (y :: b) i (by simp at h ⊢; omega)).cons x
section
variable (ob : Int) (js : List J)
/-- How many jobs of a list are an inversion with one ahead of them. -/
def cntAt (x : Nat) (ys : List Nat) : Nat := (ys.filter fun y => decide (0 < gapN ob js x y)).length
def cntN : List Nat → Nat
  | [] => 0
  | x :: ys => cntAt ob js x ys + cntN ys
theorem cntAt_perm {xs ys : List Nat} (h : xs.Perm ys) (x : Nat) : cntAt ob js x xs = cntAt ob js x ys := (h.filter _).length_eq
theorem cntAt_cons (x y : Nat) (ys : List Nat) : cntAt ob js x (y :: ys) = (if 0 < gapN ob js x y then 1 else 0) + cntAt ob js x ys := by
  unfold cntAt
  rw [List.filter_cons]
  by_cases h : 0 < gapN ob js x y
  · rw [if_pos (decide_eq_true h), if_pos h]; simp; omega
  · rw [if_neg (fun hh => h (of_decide_eq_true hh)), if_neg h]; simp
theorem cnt_swap : ∀ (p : List Nat) (i : Nat), i + 1 < p.length → 0 < gapN ob js (p.getD i 0) (p.getD (i + 1) 0) → cntN ob js p = cntN ob js (swN p i) + 1
  | [], _, h, _ => by simp at h
  | [_], _, h, _ => by simp at h
  | x :: y :: b, 0, _, h => by
    have h' : 0 < gapN ob js x y := h
    have hn := gapN_anti ob js x y
    rw [swN_zero]
    show cntAt ob js x (y :: b) + (cntAt ob js y b + cntN ob js b) = cntAt ob js y (x :: b) + (cntAt ob js x b + cntN ob js b) + 1
    rw [cntAt_cons, cntAt_cons, if_pos h', if_neg (by omega)]
    omega
  | x :: y :: b, i + 1, h, hg => by
    rw [swN_succ]
    have ih := cnt_swap (y :: b) i (by simp at h ⊢; omega) hg
    show cntAt ob js x (y :: b) + cntN ob js (y :: b) = cntAt ob js x (swN (y :: b) i) + cntN ob js (swN (y :: b) i) + 1
    rw [cntAt_perm ob js (swN_perm (y :: b) i (by simp at h ⊢; omega)) x]
    omega
theorem cntAt_le (x : Nat) (ys : List Nat) : cntAt ob js x ys ≤ ys.length := List.length_filter_le _ _
theorem cntN_le : ∀ p : List Nat, cntN ob js p ≤ p.length * p.length
  | [] => Nat.le_refl _
  | x :: ys => by
    have h1 := cntN_le ys
    have h2 := cntAt_le ob js x ys
    show cntAt ob js x ys + cntN ob js ys ≤ (ys.length + 1) * (ys.length + 1)
    rw [Nat.add_mul, Nat.mul_add]
    omega
theorem wrong_out {p : List Nat} {k : Nat} (h : wrongV ob js p = some k) : k + 1 < p.length ∧ 0 < gapN ob js (p.getD k 0) (p.getD (k + 1) 0) := by
  unfold wrongV at h
  have h1 := List.mem_range.1 (List.mem_of_find?_eq_some h)
  have h2 : 0 < gapN ob js (p.getD k 0) (p.getD (k + 1) 0) := by simpa using List.find?_some h
  exact ⟨by omega, h2⟩
/-- The exchanges, so many at most: their places, and the order at the end. -/
def sortGo : Nat → List Nat → List Nat → List Nat × List Nat
  | 0, p, c => (c, p)
  | n + 1, p, c => match wrongV ob js p with
    | none => (c, p)
    | some i => sortGo n (swN p i) (c ++ [i])
def sortR (p : List Nat) : List Nat × List Nat := sortGo ob js (cntN ob js p + 1) p []
theorem sortGo_len : ∀ (n : Nat) (p c : List Nat), (sortGo ob js n p c).2.length = p.length ∧ (sortGo ob js n p c).1.length ≤ c.length + n
  | 0, _, _ => ⟨rfl, Nat.le_refl _⟩
  | n + 1, p, c => by
    unfold sortGo
    cases wrongV ob js p with
    | none => exact ⟨rfl, by simp⟩
    | some i =>
      have := sortGo_len n (swN p i) (c ++ [i])
      simp only
      rw [swN_len] at this
      simp at this
      exact ⟨this.1, by omega⟩
end
end Go.Proofs.YtpoibjmkbljblaaDoor
