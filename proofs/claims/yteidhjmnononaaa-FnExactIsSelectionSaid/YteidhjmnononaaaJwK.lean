/- Selections of job shops; plain. -/
import Derived.Test.YteidhjmnononaaaJwQ
import Derived.Test.YteidhjmnononaaaJobP
namespace Go.Proofs.Yteidhjmnononaaa
open Go.RowKit
/-- Whether an order has all the numbers of a list, and as many. -/
def inK (W o : List Int) : Bool := (W.all fun x => decide (x ∈ o)) && decide (o.length = W.length)
/-- The Ops of a Machine. -/
def onI (l : List J) (q : Int) : List Int := natI (onL l q l.length)
theorem onI_len (l : List J) (q : Int) : (onI l q).length ≤ l.length := by
  unfold onI
  have := onL_len l q l.length
  simpa using this
theorem onI_asc (l : List J) (q : Int) : (onI l q).Pairwise (· < ·) := by
  unfold onI natI onL
  rw [List.pairwise_map]
  exact (List.pairwise_lt_range.filter _).imp fun h => by simpa using h
theorem asc_nodup {W : List Int} (h : W.Pairwise (· < ·)) : W.Nodup := h.imp fun h e => by omega
/-- An order in which the list's numbers stand: sorted, it is the list. -/
theorem sel_sort {W o : List Int} (hW : W.Pairwise (· < ·)) : o.mergeSort (fun x y => decide (x ≤ y)) = W ↔ inK W o = true := by
  constructor
  · intro h
    have hp := List.mergeSort_perm o (fun x y => decide (x ≤ y))
    rw [h] at hp
    unfold inK
    rw [Bool.and_eq_true]
    exact ⟨List.all_eq_true.2 fun x hx => decide_eq_true (hp.mem_iff.1 hx), decide_eq_true hp.length_eq.symm⟩
  · intro h
    unfold inK at h
    rw [Bool.and_eq_true] at h
    have hp : o.Perm W := perm_of_subset (asc_nodup hW) (fun x hx => of_decide_eq_true (List.all_eq_true.1 h.1 x hx)) (Nat.le_of_eq (of_decide_eq_true h.2))
    have h1 := List.pairwise_mergeSort (le := fun x y : Int => decide (x ≤ y)) (fun a b c h1 h2 => by simp only [decide_eq_true_eq] at h1 h2 ⊢; omega) (fun a b => by simp only [Bool.or_eq_true, decide_eq_true_eq]; omega) o
    refine List.Perm.eq_of_pairwise (le := fun x y : Int => x ≤ y) (fun a b _ _ h1 h2 => by omega) (h1.imp fun h => by simpa using h) (hW.imp fun h => by omega) ((List.mergeSort_perm _ _).trans hp)
theorem sel_dec {W o : List Int} (hW : W.Pairwise (· < ·)) : decide (o.mergeSort (fun x y => decide (x ≤ y)) = W) = inK W o := by
  rw [Bool.eq_iff_iff, decide_eq_true_eq]
  exact sel_sort hW
/-- Whether the first numbers of a list all stand in an order. -/
def hasTo (W o : List Int) (i : Nat) : Bool := (W.take i).all fun x => decide (x ∈ o)
theorem hasTo_zero (W o : List Int) : hasTo W o 0 = true := rfl
theorem hasTo_succ {W : List Int} (o : List Int) {i : Nat} (h : i < W.length) : hasTo W o (i + 1) = (hasTo W o i && decide (W[i] ∈ o)) := by
  unfold hasTo
  rw [← List.take_append_getElem h, List.all_append]
  simp
theorem hasTo_le {W o : List Int} {i : Nat} (h : hasTo W o i = false) : inK W o = false := by
  unfold inK
  cases hw : W.all fun x => decide (x ∈ o)
  · rfl
  · refine absurd (List.all_eq_true.2 fun x hx => List.all_eq_true.1 hw x (List.mem_of_mem_take hx)) (?_ : ¬ hasTo W o i = true)
    rw [h]; decide
theorem hasTo_all {W o : List Int} (h : hasTo W o W.length = true) : inK W o = decide (o.length = W.length) := by
  unfold hasTo at h
  rw [List.take_length] at h
  unfold inK
  rw [h, Bool.true_and]
/-- Whether the first orders are those of the first Machines. -/
def selTo (l : List J) (oss : List (List Int)) (k : Nat) : Bool := (List.range k).all fun i => inK (onI l (i : Int)) (oss.getD i [])
theorem selTo_zero (l : List J) (oss : List (List Int)) : selTo l oss 0 = true := rfl
theorem selTo_succ (l : List J) (oss : List (List Int)) {k : Nat} (h : k < oss.length) : selTo l oss (k + 1) = (selTo l oss k && inK (onI l (k : Int)) oss[k]) := by
  unfold selTo
  rw [List.range_succ, List.all_append]
  simp [List.getD, h]
theorem selTo_no (l : List J) (oss : List (List Int)) {k : Nat} (h : k < oss.length) (hn : inK (onI l (k : Int)) oss[k] = false) : selTo l oss oss.length = false := by
  cases hs : selTo l oss oss.length
  · rfl
  · have := List.all_eq_true.1 hs k (List.mem_range.2 h)
    rw [show oss.getD k [] = oss[k] by simp [List.getD, h], hn] at this
    cases this
def selB (m : Int) (xss : List (List Pr)) (oss : List (List Int)) : Bool := decide ((oss.length : Int) = m) && selTo (opsJ xss) oss oss.length
def selR (m : Int) (xss : List (List Pr)) (oss : List (List Int)) : Bool × Bool := if jshB m xss then (selB m xss oss, true) else (false, false)
end Go.Proofs.Yteidhjmnononaaa
