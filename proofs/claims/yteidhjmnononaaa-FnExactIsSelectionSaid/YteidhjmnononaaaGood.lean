/- Lists of jobs: what the model and the program ask of them. -/
import Derived.Test.YteidhjmnononaaaJobs
namespace Go.Proofs.Yteidhjmnononaaa
open Go.RowKit

def inB (x a b : Int) : Bool := decide (a ≤ x ∧ x ≤ b)
theorem inB_yes {x a b : Int} (h : a ≤ x) (h' : x ≤ b) : inB x a b = true := decide_eq_true ⟨h, h'⟩
theorem inB_no {x a b : Int} (h : ¬ (a ≤ x ∧ x ≤ b)) : inB x a b = false := decide_eq_false h
theorem inB_out {x a b : Int} (h : inB x a b = true) : a ≤ x ∧ x ≤ b := of_decide_eq_true h
theorem inB_not {x a b : Int} (h : inB x a b = false) : ¬ (a ≤ x ∧ x ≤ b) := of_decide_eq_false h
theorem l1In_any (x a b : Int) (w : World) :
    Calls Try.prog 23 #[.int .i64 x, .int .i64 a, .int .i64 b] w fun e w' => e = .returned (.bool (inB x a b)) ∧ w = w' := by
  by_cases h1 : a ≤ x
  · by_cases h2 : x ≤ b
    · have H := Lib.hid (inB_yes h1 h2)
      go_enter Try.func23, Try.ntmps23
      go_wp2
      go_ret
      exact ⟨by rw [H.out]; rfl, rfl⟩
    · have H := Lib.hid (inB_no (x := x) (a := a) (b := b) (by omega))
      go_enter Try.func23, Try.ntmps23
      go_wp2
      go_ret
      exact ⟨by rw [H.out]; rfl, rfl⟩
  · have H := Lib.hid (inB_no (x := x) (a := a) (b := b) (by omega))
    go_enter Try.func23, Try.ntmps23
    go_wp2
    go_ret
    exact ⟨by rw [H.out]; rfl, rfl⟩

theorem okJ_inB (j : J) : okJ j = (inB j.t 1 50 && inB j.w 0 50 && inB j.r 0 500 && inB j.d 0 500) := by
  rw [Bool.eq_iff_iff, okJ_iff]; unfold inB; simp only [Bool.and_eq_true, decide_eq_true_iff]; omega
theorem allTo_step {js : List J} {k : Nat} (h : ∀ i (hi : i < js.length), i < k → okJ js[i] = true) (hk : k < js.length) (ho : okJ js[k] = true) : ∀ i (hi : i < js.length), i < k + 1 → okJ js[i] = true := by
  intro i hi hik
  by_cases e : i = k
  · subst e; exact ho
  · exact h i hi (by omega)
theorem allTo_all {js : List J} (h : ∀ i (hi : i < js.length), i < js.length → okJ js[i] = true) : ∀ j ∈ js, okJ j = true := by
  intro j hj
  obtain ⟨i, hi, rfl⟩ := List.mem_iff_getElem.1 hj
  exact h i hi hi
theorem all_of {js : List J} (h : ∀ i (hi : i < js.length), i < js.length → okJ js[i] = true) : js.all okJ = true := by
  rw [List.all_eq_true]; exact allTo_all h
theorem all_bad {js : List J} {j : J} (hj : j ∈ js) (h : okJ j = false) : js.all okJ = false := by
  rw [List.all_eq_false]; exact ⟨j, hj, by rw [h]; simp⟩
/-- An index, or -1 where there is none. -/
def IdxIs (js : List J) (w : World) (e : Ending) (w' : World) : Prop := ∃ r : Int, e = .returned (.int .i64 r) ∧ (0 ≤ r ↔ js.all okJ = false) ∧ Below w.heap.size w w'
end Go.Proofs.Yteidhjmnononaaa
