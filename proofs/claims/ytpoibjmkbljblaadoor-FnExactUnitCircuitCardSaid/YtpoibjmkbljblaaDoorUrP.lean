/- Unit jobs: sets that are taken, in plain words. -/
import Derived.Test.YtpoibjmkbljblaaDoorKb3
import Derived.Test.YtpoibjmkbljblaaDoorKb4
namespace Go.Proofs.YtpoibjmkbljblaaDoor
def unitB (js : List J) : Bool := js.all fun j => decide (j.t = 1)
theorem unit_at {js : List J} (h : unitB js = true) : ∀ j ∈ js, j.t = 1 := fun j hj => of_decide_eq_true (List.all_eq_true.1 h j hj)
theorem unit_bad {js : List J} {j : J} (hj : j ∈ js) (h : j.t ≠ 1) : unitB js = false := List.all_eq_false.2 ⟨j, hj, by simpa using h⟩
theorem unit_all {js : List J} (h : ∀ i (hi : i < js.length), i < js.length → js[i].t = 1) : unitB js = true := List.all_eq_true.2 fun j hj => by
  obtain ⟨i, hi, rfl⟩ := List.getElem_of_mem hj
  exact decide_eq_true (h i hi hi)
/-- A set is timely. -/
def timB (js : List J) (s : Nat) : Bool := decide (latL js (dueL js (memB s)) ≤ 0)
def tkS (js : List J) (s i : Nat) : Nat := if timB js (addB s i) then addB s i else s
/-- The jobs that are taken, one behind the other. -/
def tkGo (js : List J) (l : List Nat) (k : Nat) : Nat := (l.take k).foldl (tkS js) 0
theorem tkGo_zero (js : List J) (l : List Nat) : tkGo js l 0 = 0 := rfl
theorem tkGo_succ {js : List J} {l : List Nat} {k : Nat} (hk : k < l.length) : tkGo js l (k + 1) = tkS js (tkGo js l k) l[k] := by
  unfold tkGo; rw [List.take_succ_eq_append_getElem hk, List.foldl_append]; rfl
def tkL (js : List J) (l : List Nat) : Nat := tkGo js l l.length
theorem bit8 {s i : Nat} (hs : s < 256) (h : s.testBit i = true) : i < 8 := by
  rcases Nat.lt_or_ge i 8 with h1 | h1
  · exact h1
  · rw [Nat.testBit_lt_two_pow (Nat.lt_of_lt_of_le hs (Nat.pow_le_pow_right (by omega) h1 : 2 ^ 8 ≤ 2 ^ i))] at h
    cases h
theorem add_bit {s j n : Nat} (hs : s < 256) (hj : j < n) (hn : n ≤ 8) (h : ∀ k, s.testBit k = true → k < n) : ∀ k, (addB s j).testBit k = true → k < n := fun k hk => by
  have hk8 := bit8 (addB_lt8 s hs j (by omega)) hk
  rw [memB_add s hs j (by omega) k hk8, Bool.or_eq_true] at hk
  rcases hk with h1 | h1
  · exact h k h1
  · have := of_decide_eq_true h1; omega
theorem tkS_ok {js : List J} {s i n : Nat} (hs : s < 256) (hi : i < n) (hn : n ≤ 8) (h : ∀ k, s.testBit k = true → k < n) : tkS js s i < 256 ∧ ∀ k, (tkS js s i).testBit k = true → k < n := by
  unfold tkS
  split
  · exact ⟨addB_lt8 s hs i (by omega), add_bit hs hi hn h⟩
  · exact ⟨hs, h⟩
theorem tkGo_ok {js : List J} {l : List Nat} {n : Nat} (hn : n ≤ 8) (hl : ∀ x ∈ l, x < n) : ∀ k, k ≤ l.length → tkGo js l k < 256 ∧ ∀ i, (tkGo js l k).testBit i = true → i < n
  | 0, _ => ⟨by rw [tkGo_zero]; omega, fun i h => by rw [tkGo_zero] at h; simp at h⟩
  | k + 1, hk => by
    have ih := tkGo_ok (js := js) hn hl k (by omega)
    rw [tkGo_succ (by omega)]
    exact tkS_ok ih.1 (hl _ (List.getElem_mem _)) hn ih.2
theorem memB_strict (s : Nat) : StrictN (memB s) := List.Pairwise.filter _ List.pairwise_lt_range
theorem putN_memB : ∀ s, s < 256 → ∀ j, j < 8 → putN j (memB s) = memB (addB s j) := by decide +kernel
def rankR (js : List J) (s : List Int) : Int × Bool := if (unitB js && plainL js) && risL js.length s then (((memB (tkL js (memB (numS s)))).length : Int), true) else (0, false)
end Go.Proofs.YtpoibjmkbljblaaDoor
