/- Plain words for the late rule. -/
import Derived.Test.YtpoibjmkbljblaaDoorRulP
namespace Go.Proofs.YtpoibjmkbljblaaDoor
/-- What the late rule has done: the jobs that are left, those that were dropped, the steps. -/
structure LR where
  left : List Nat
  drop : List Nat
  steps : List (Int × Int)
def timeN (js : List J) (j : Nat) : Int := (js.getD j j0).t
/-- The first one of the longest jobs among the first k of a list. -/
def longTo (js : List J) (l : List Nat) : Nat → Nat
  | 0 => 0
  | k + 1 => if timeN js (l.getD (longTo js l k) 0) < timeN js (l.getD k 0) then k else longTo js l k
theorem longTo_lt (js : List J) (l : List Nat) : ∀ k, longTo js l k ≤ k - 1
  | 0 => Nat.le_refl _
  | k + 1 => by
    unfold longTo
    split
    · omega
    · have := longTo_lt js l k; omega
theorem longTo_one (js : List J) (l : List Nat) : longTo js l 1 = 0 := by
  unfold longTo
  split <;> rfl
def longL (js : List J) (l : List Nat) : Nat := longTo js l l.length
theorem longL_lt (js : List J) {l : List Nat} (h : 0 < l.length) : longL js l < l.length := by
  have := longTo_lt js l l.length
  unfold longL
  omega
def overB (js : List J) (l : List Nat) (x : Nat) : Bool := decide ((js.getD x j0).d < timesOf js l)
def lateStep (js : List J) (s : LR) (x : Nat) : LR :=
  if overB js (s.left ++ [x]) x then ⟨(s.left ++ [x]).eraseIdx (longL js (s.left ++ [x])), s.drop ++ [(s.left ++ [x]).getD (longL js (s.left ++ [x])) 0], s.steps ++ [((x : Int), (((s.left ++ [x]).getD (longL js (s.left ++ [x])) 0 : Nat) : Int))]⟩
  else ⟨s.left ++ [x], s.drop, s.steps ++ [((x : Int), -1)]⟩
def lateGo (js : List J) (k : Nat) : LR := ((ruledL 4 js).take k).foldl (lateStep js) ⟨[], [], []⟩
theorem lateGo_zero (js : List J) : lateGo js 0 = ⟨[], [], []⟩ := rfl
theorem lateGo_succ (js : List J) (k : Nat) (h : k < (ruledL 4 js).length) : lateGo js (k + 1) = lateStep js (lateGo js k) (ruledL 4 js)[k] := by
  unfold lateGo
  rw [List.take_succ_eq_append_getElem h, List.foldl_append]; rfl
theorem times_snoc (js : List J) (l : List Nat) (x : Nat) : timesOf js (l ++ [x]) = timesOf js l + timeN js x := by
  unfold timesOf timeN; simp
theorem getD_mem {l : List Nat} {i : Nat} (h : i < l.length) : l.getD i 0 ∈ l := by rw [getD_at l 0 h]; exact List.getElem_mem _
theorem erase_perm {l : List Nat} {i : Nat} (h : i < l.length) : (l.getD i 0 :: l.eraseIdx i).Perm l := by
  rw [getD_at l 0 h, List.eraseIdx_eq_take_drop_succ]
  have h1 : l = l.take i ++ l[i] :: l.drop (i + 1) := by rw [← List.drop_eq_getElem_cons h, List.take_append_drop]
  conv => rhs; rw [h1]
  exact List.perm_middle.symm
theorem times_erase (js : List J) {l : List Nat} {i : Nat} (h : i < l.length) : timesOf js (l.eraseIdx i) = timesOf js l - timeN js (l.getD i 0) := by
  have := sum_perm ((erase_perm h).map fun j => (js.getD j j0).t)
  unfold timesOf timeN
  simp only [List.map_cons, List.sum_cons] at this
  omega
theorem lateStep_perm (js : List J) (s : LR) (x : Nat) : ((lateStep js s x).left ++ (lateStep js s x).drop).Perm (s.left ++ s.drop ++ [x]) := by
  unfold lateStep
  split
  · simp only
    have hl : longL js (s.left ++ [x]) < (s.left ++ [x]).length := longL_lt js (by simp)
    have h1 := erase_perm hl
    have h2 : (((s.left ++ [x]).eraseIdx (longL js (s.left ++ [x]))) ++ (s.drop ++ [(s.left ++ [x]).getD (longL js (s.left ++ [x])) 0])).Perm (((s.left ++ [x]).getD (longL js (s.left ++ [x])) 0 :: (s.left ++ [x]).eraseIdx (longL js (s.left ++ [x]))) ++ s.drop) := by
      rw [← List.append_assoc]
      refine (List.perm_append_comm (l₁ := _ ++ s.drop)).trans ?_
      simp
    refine h2.trans ((h1.append_right s.drop).trans ?_)
    rw [List.append_assoc, List.append_assoc]
    exact List.Perm.append_left _ List.perm_append_comm
  · simp only
    rw [List.append_assoc, List.append_assoc]
    exact List.Perm.append_left _ List.perm_append_comm
theorem lateGo_perm (js : List J) : ∀ k, k ≤ (ruledL 4 js).length → ((lateGo js k).left ++ (lateGo js k).drop).Perm ((ruledL 4 js).take k)
  | 0, _ => by simp [lateGo_zero]
  | k + 1, h => by
    rw [lateGo_succ js k (by omega), List.take_succ_eq_append_getElem (by omega)]
    exact (lateStep_perm js _ _).trans ((lateGo_perm js k (by omega)).append_right _)
theorem lateGo_steps (js : List J) : ∀ k, k ≤ (ruledL 4 js).length → (lateGo js k).steps.length = k ∧ (lateGo js k).left.length + (lateGo js k).drop.length = k
  | 0, _ => by simp [lateGo_zero]
  | k + 1, h => by
    have ih := lateGo_steps js k (by omega)
    have hp := (lateGo_perm js (k + 1) h).length_eq
    simp only [List.length_append, List.length_take] at hp
    refine ⟨?_, by omega⟩
    rw [lateGo_succ js k (by omega)]
    unfold lateStep
    split <;> simp [ih.1]
theorem lateGo_lt (js : List J) {k : Nat} (h : k ≤ (ruledL 4 js).length) {x : Nat} (hx : x ∈ (lateGo js k).left) : x < js.length :=
  ruledTo_lt 4 js (List.mem_of_mem_take ((lateGo_perm js k h).mem_iff.1 (List.mem_append_left _ hx)))
/-- The order of the late rule. -/
def lateRestTo (l : List Nat) (k : Nat) : List Nat := (List.range k).filter fun i => decide (i ∉ l)
def lateRuleL (js : List J) : List Nat := (lateGo js js.length).left ++ lateRestTo (lateGo js js.length).left js.length
theorem lateRest_succ (l : List Nat) (k : Nat) : lateRestTo l (k + 1) = if k ∈ l then lateRestTo l k else lateRestTo l k ++ [k] := by
  unfold lateRestTo
  rw [List.range_succ, List.filter_append]
  by_cases h : k ∈ l
  · rw [if_pos h, List.filter_cons, if_neg (by simpa using h)]; simp
  · rw [if_neg h, List.filter_cons, if_pos (by simpa using h)]; simp
theorem late_drop_iff (js : List J) {i : Nat} (hi : i < js.length) : i ∈ (lateGo js js.length).drop ↔ i ∉ (lateGo js js.length).left := by
  have hl := ruledL_len 4 js
  have hp := lateGo_perm js js.length (by omega)
  rw [List.take_of_length_le (by omega)] at hp
  have hp2 := hp.trans (ruledL_perm 4 js)
  have hd := hp2.nodup_iff.2 List.nodup_range
  rw [List.nodup_append] at hd
  constructor
  · intro h1 h2
    exact hd.2.2 i h2 i h1 rfl
  · intro h
    have := hp2.mem_iff.2 (List.mem_range.2 hi)
    rcases List.mem_append.1 this with h' | h'
    · exact absurd h' h
    · exact h'
end Go.Proofs.YtpoibjmkbljblaaDoor
