/- Job shops: what makes one valid; plain. -/
import Derived.Test.YteidhjmnononaaaOrd
import Derived.Test.YteidhjmnononaaaPrC
import Derived.Test.YteidhjmnononaaaSgx
namespace Go.Proofs.Yteidhjmnononaaa
open Go.RowKit
def machs (r : List Pr) : List Int := r.map (·.1)
/-- Whether the Op at a place of a Route may stand there. -/
def opB (m : Int) (r : List Pr) (i : Nat) : Bool := (inB (r.getD i (0, 0)).1 0 (m - 1) && inB (r.getD i (0, 0)).2 1 20) && !hasI (machs (r.take i)) (r.getD i (0, 0)).1
def routeB (m : Int) (r : List Pr) : Bool := decide (∀ i, i < r.length → opB m r i = true)
def jshB (m : Int) (xss : List (List Pr)) : Bool := (inB m 1 4 && decide (xss.length ≤ 4)) && (xss.all (routeB m) && decide ((lensX xss).sum ≤ 12))
theorem route_bad {m : Int} {r : List Pr} {i : Nat} (hi : i < r.length) (h : opB m r i = false) : routeB m r = false := decide_eq_false fun ha => by have := ha i hi; rw [h] at this; cases this
theorem route_all {m : Int} {r : List Pr} (h : ∀ i, i < r.length → opB m r i = true) : routeB m r = true := decide_eq_true h
theorem route_out {m : Int} {r : List Pr} (h : routeB m r = true) : ∀ i, i < r.length → opB m r i = true := of_decide_eq_true h
theorem upto_step {P : Nat → Prop} {k : Nat} (h : ∀ i, i < k → P i) (hk : P k) : ∀ i, i < k + 1 → P i := fun i hi => by
  by_cases e : i = k
  · subst e; exact hk
  · exact h i (by omega)
theorem op_at {m : Int} {r : List Pr} {i : Nat} (hi : i < r.length) : opB m r i = ((inB r[i].1 0 (m - 1) && inB r[i].2 1 20) && !hasI (machs (r.take i)) r[i].1) := by
  unfold opB
  rw [show r.getD i (0, 0) = r[i] by simp [List.getD, hi]]
theorem machs_step {r : List Pr} {i : Nat} (hi : i < r.length) : machs (r.take (i + 1)) = machs (r.take i) ++ [r[i].1] := by
  unfold machs
  rw [List.take_succ_eq_append_getElem hi, List.map_append]
  rfl
theorem machs_len {r : List Pr} {i : Nat} (hi : i ≤ r.length) : (machs (r.take i)).length = i := by unfold machs; simp; omega
theorem jsh_1 {m : Int} {xss : List (List Pr)} (h : inB m 1 4 = false) : jshB m xss = false := by unfold jshB; rw [h]; rfl
theorem jsh_2 {m : Int} {xss : List (List Pr)} (h : ¬ xss.length ≤ 4) : jshB m xss = false := by unfold jshB; rw [decide_eq_false h]; simp
theorem jsh_3 {m : Int} {xss : List (List Pr)} {i : Nat} (hi : i < xss.length) (h : routeB m xss[i] = false) : jshB m xss = false := by
  have : xss.all (routeB m) = false := by
    rw [List.all_eq_false]
    exact ⟨_, List.getElem_mem hi, by rw [h]; exact Bool.false_ne_true⟩
  unfold jshB
  rw [this]; simp
theorem jsh_4 {m : Int} {xss : List (List Pr)} (h1 : inB m 1 4 = true) (h2 : xss.length ≤ 4) (h3 : ∀ i (hi : i < xss.length), routeB m xss[i] = true) : jshB m xss = decide ((lensX xss).sum ≤ 12) := by
  have : xss.all (routeB m) = true := by
    rw [List.all_eq_true]
    intro x hx
    obtain ⟨i, hi, rfl⟩ := List.getElem_of_mem hx
    exact h3 i hi
  unfold jshB
  rw [this, h1, decide_eq_true h2]; simp
theorem jsh_out {m : Int} {xss : List (List Pr)} (h : jshB m xss = true) : (1 ≤ m ∧ m ≤ 4) ∧ xss.length ≤ 4 ∧ (∀ i (hi : i < xss.length), routeB m xss[i] = true) ∧ (lensX xss).sum ≤ 12 := by
  unfold jshB at h
  simp only [Bool.and_eq_true, decide_eq_true_eq, List.all_eq_true] at h
  obtain ⟨⟨h1, h2⟩, h3, h4⟩ := h
  exact ⟨inB_out h1, h2, fun i hi => h3 _ (List.getElem_mem hi), h4⟩
end Go.Proofs.Yteidhjmnononaaa
