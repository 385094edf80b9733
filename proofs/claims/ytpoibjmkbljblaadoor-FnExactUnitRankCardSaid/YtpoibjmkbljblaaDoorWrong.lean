/- IsRuledOrder: the model's and the program's. -/
import Derived.Test.YtpoibjmkbljblaaDoorRuleS
import Derived.Test.YtpoibjmkbljblaaDoorGrpP
namespace Go.Proofs.YtpoibjmkbljblaaDoor
open Go.RowKit
theorem isRule_of {js : List J} {ob : Int} (h : ruledB js ob = true) : isRule ob = true := by
  unfold ruledB at h
  simp only [Bool.and_eq_true] at h
  exact h.2.1
theorem wfind_none {p : Nat → Bool} {n : Nat} (h : ∀ i, i < n → p i = false) : (List.range n).find? p = none := by
  rw [List.find?_eq_none]
  intro i hi
  rw [h i (List.mem_range.1 hi)]; simp
theorem wfind_some {p : Nat → Bool} {k : Nat} (hp : p k = true) (hb : ∀ i, i < k → p i = false) : ∀ n, k < n → (List.range n).find? p = some k
  | 0, h => by omega
  | n + 1, h => by
    rw [List.range_succ, List.find?_append]
    by_cases e : k = n
    · subst e
      rw [wfind_none hb]
      simp [hp]
    · rw [wfind_some hp hb n (by omega)]; rfl
theorem wrong_none {ob : Int} {js : List J} {p : List Nat} (h : ∀ i, i < p.length - 1 → gapN ob js (p.getD i 0) (p.getD (i + 1) 0) ≤ 0) : wrongV ob js p = none :=
  wfind_none fun i hi => decide_eq_false (by have := h i hi; omega)
theorem wrong_some {ob : Int} {js : List J} {p : List Nat} {k : Nat} (hk : k < p.length - 1) (hp : 0 < gapN ob js (p.getD k 0) (p.getD (k + 1) 0)) (h : ∀ i, i < k → gapN ob js (p.getD i 0) (p.getD (i + 1) 0) ≤ 0) : wrongV ob js p = some k :=
  wfind_some (decide_eq_true hp) (fun i hi => decide_eq_false (by have := h i hi; omega)) _ hk
theorem noWrong_step {ob : Int} {js : List J} {p : List Nat} {k : Nat} (h : ∀ i, i < k → gapN ob js (p.getD i 0) (p.getD (i + 1) 0) ≤ 0) (hk : gapN ob js (p.getD k 0) (p.getD (k + 1) 0) ≤ 0) : ∀ i, i < k + 1 → gapN ob js (p.getD i 0) (p.getD (i + 1) 0) ≤ 0 := by
  intro i hi
  by_cases e : i = k
  · subst e; exact hk
  · exact h i (by omega)
def wrongN (ob : Int) (js : List J) (p : List Nat) : Int := match wrongV ob js p with
  | some k => (k : Int)
  | none => -1
def wrongP (ob : Int) (js : List J) (p : List Nat) : Int × Bool := match wrongV ob js p with
  | some k => ((k : Int), true)
  | none => (0, false)
section
variable {b : Nat} {A : Option Addr} {c : Nat} {js : List J} {ob : Int} (ho : isRule ob = true) (hg : goodL js = true)
include ho hg
end
end Go.Proofs.YtpoibjmkbljblaaDoor
