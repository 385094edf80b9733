/- Plain words for sorting by a rule, one after the other. -/
import Derived.Test.YtllohccpnglloaaDoorRulP
namespace Go.Proofs.YtllohccpnglloaaDoor
section
variable (ob : Int) (js : List J)
def isortTo (q : List Nat) (k : Nat) : List Nat := (q.take k).foldl (fun acc x => insN ob js x acc) []
def isortL (q : List Nat) : List Nat := isortTo ob js q q.length
theorem isortTo_succ (q : List Nat) {k : Nat} (h : k < q.length) : isortTo ob js q (k + 1) = insN ob js q[k] (isortTo ob js q k) := by
  unfold isortTo
  rw [List.take_succ_eq_append_getElem h, List.foldl_append]; rfl
theorem isortTo_all (q : List Nat) {k : Nat} (h : q.length ≤ k) : isortTo ob js q k = isortL ob js q := by
  unfold isortL isortTo
  rw [List.take_of_length_le h, List.take_of_length_le (Nat.le_refl _)]
theorem isortTo_one (q : List Nat) : isortTo ob js q 1 ++ q.drop 1 = q := by
  cases q with
  | nil => rfl
  | cons x q => rfl
theorem foldl_ins_perm : ∀ (l acc : List Nat), (l.foldl (fun acc x => insN ob js x acc) acc).Perm (l ++ acc)
  | [], acc => List.Perm.refl _
  | x :: l, acc => by
    rw [List.foldl_cons]
    refine (foldl_ins_perm l _).trans ?_
    refine (List.Perm.append_left l (insN_perm ob js x acc)).trans ?_
    exact List.perm_middle
theorem isortTo_perm (q : List Nat) (k : Nat) : (isortTo ob js q k).Perm (q.take k) := by
  have := foldl_ins_perm ob js (q.take k) []
  rwa [List.append_nil] at this
theorem isortTo_len (q : List Nat) {k : Nat} (h : k ≤ q.length) : (isortTo ob js q k).length = k := by
  have := (isortTo_perm ob js q k).length_eq
  rw [this, List.length_take]; omega
theorem isortL_perm (q : List Nat) : (isortL ob js q).Perm q := by
  have := isortTo_perm ob js q q.length
  rwa [List.take_of_length_le (Nat.le_refl _)] at this
theorem isortL_len (q : List Nat) : (isortL ob js q).length = q.length := (isortL_perm ob js q).length_eq
theorem isort_ruled : ∀ (k n : Nat), k ≤ n → isortTo ob js (List.range n) k = ruledTo ob js k
  | 0, n, _ => rfl
  | k + 1, n, h => by
    rw [isortTo_succ ob js (List.range n) (k := k) (by simp; omega), isort_ruled k n (by omega)]
    simp [ruledTo]
theorem isortL_ruled : isortL ob js (List.range js.length) = ruledL ob js := by
  unfold isortL ruledL
  rw [List.length_range]; exact isort_ruled ob js _ _ (Nat.le_refl _)
end
section
variable {ob : Int} {js : List J}
theorem foldl_ins_sorted (hg : ∀ j ∈ js, okJ j = true) : ∀ (l acc : List Nat), (∀ x ∈ l, x < js.length) → (∀ x ∈ acc, x < js.length) → SortedN ob js acc → SortedN ob js (l.foldl (fun acc x => insN ob js x acc) acc)
  | [], _, _, _, h => h
  | x :: l, acc, hl, ha, h => by
    rw [List.foldl_cons]
    refine foldl_ins_sorted hg l _ (fun y hy => hl y (List.mem_cons_of_mem _ hy)) (fun y hy => ?_) (insN_sorted hg (hl x List.mem_cons_self) ha h)
    rcases List.mem_cons.1 ((insN_perm ob js x acc).mem_iff.1 hy) with e | e
    · subst e; exact hl y List.mem_cons_self
    · exact ha y e
theorem isortTo_sorted (hg : ∀ j ∈ js, okJ j = true) {q : List Nat} (hq : ∀ x ∈ q, x < js.length) (k : Nat) : SortedN ob js (isortTo ob js q k) :=
  foldl_ins_sorted hg _ _ (fun x hx => hq x (List.mem_of_mem_take hx)) (by simp) List.Pairwise.nil
theorem isortTo_lt {q : List Nat} (hq : ∀ x ∈ q, x < js.length) {k x : Nat} (hx : x ∈ isortTo ob js q k) : x < js.length := hq x (List.mem_of_mem_take ((isortTo_perm ob js q k).mem_iff.1 hx))
end
/-- The list while one job moves forward. -/
def midL (out rest : List Nat) (x j : Nat) : List Nat := out.take j ++ x :: (out.drop j ++ rest)
theorem midL_len (out rest : List Nat) (x : Nat) {j : Nat} (h : j ≤ out.length) : (midL out rest x j).length = out.length + 1 + rest.length := by unfold midL; simp; omega
theorem midL_at (out rest : List Nat) (x : Nat) {j : Nat} (h : j ≤ out.length) : (midL out rest x j)[j]? = some x := by
  unfold midL
  rw [List.getElem?_append_right (by simp; omega)]
  have : (out.take j).length = j := by simp; omega
  rw [this, Nat.sub_self]; rfl
theorem midL_prev (out rest : List Nat) (x : Nat) {j : Nat} (h : j < out.length) : (midL out rest x (j + 1))[j]? = some out[j] := by
  unfold midL
  rw [List.getElem?_append_left (by simp; omega), List.getElem?_take, if_pos (by omega), List.getElem?_eq_getElem h]
theorem midL_swap (out rest : List Nat) (x : Nat) {j : Nat} (h : j < out.length) : ((midL out rest x (j + 1)).set (j + 1) out[j]).set j x = midL out rest x j := by
  unfold midL
  have e1 : out.take (j + 1) = out.take j ++ [out[j]] := List.take_succ_eq_append_getElem h
  have e2 : out.drop j = out[j] :: out.drop (j + 1) := List.drop_eq_getElem_cons h
  have hl : (out.take j).length = j := by simp; omega
  rw [e1, List.append_assoc, List.set_append_right _ _ (by omega), List.set_append_right _ _ (by omega), hl]
  rw [show j + 1 - j = 1 by omega, Nat.sub_self, e2]
  rfl
theorem midL_start (out rest : List Nat) (x : Nat) : midL out rest x out.length = out ++ x :: rest := by unfold midL; simp
end Go.Proofs.YtllohccpnglloaaDoor
