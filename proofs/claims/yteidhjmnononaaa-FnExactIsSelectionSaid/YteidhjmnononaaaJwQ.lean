/- Job shops: the Ops by their numbers; plain. -/
import Derived.Test.YteidhjmnononaaaJwP
import Derived.Test.YteidhjmnononaaaEnds
namespace Go.Proofs.Yteidhjmnononaaa
open Go.RowKit
/-- The first k Ops of a Route, each with the number of the Route and its index. -/
def rowO (i : Nat) (r : List Pr) (k : Nat) : List J := (List.range k).map fun j => ⟨(r.getD j (0, 0)).1, (r.getD j (0, 0)).2, (i : Int), (j : Int)⟩
def opsTo (xss : List (List Pr)) : Nat → List J
  | 0 => []
  | i + 1 => opsTo xss i ++ rowO i (xss.getD i []) (xss.getD i []).length
def opsJ (xss : List (List Pr)) : List J := opsTo xss xss.length
theorem rowO_len (i : Nat) (r : List Pr) (k : Nat) : (rowO i r k).length = k := by unfold rowO; simp
theorem rowO_succ (i : Nat) (r : List Pr) (k : Nat) (hk : k < r.length) : rowO i r (k + 1) = rowO i r k ++ [⟨r[k].1, r[k].2, (i : Int), (k : Int)⟩] := by
  unfold rowO
  rw [List.range_succ, List.map_append]
  simp [List.getD, hk]
theorem rowO_zero (i : Nat) (r : List Pr) : rowO i r 0 = [] := rfl
theorem opsTo_succ (xss : List (List Pr)) (i : Nat) (hi : i < xss.length) : opsTo xss (i + 1) = opsTo xss i ++ rowO i xss[i] xss[i].length := by
  show opsTo xss i ++ rowO i (xss.getD i []) (xss.getD i []).length = _
  rw [show xss.getD i [] = xss[i] by simp [List.getD, hi]]
theorem opsTo_len (xss : List (List Pr)) : ∀ i, i ≤ xss.length → (opsTo xss i).length = ((lensX xss).take i).sum
  | 0, _ => by simp [opsTo]
  | i + 1, h => by
    rw [opsTo_succ xss i (by omega), List.length_append, rowO_len, opsTo_len xss i (by omega), sum_take_succ _ i (by rw [lensX_len]; omega), lensX_get xss i (by omega)]
theorem opsJ_len (xss : List (List Pr)) : (opsJ xss).length = (lensX xss).sum := by
  unfold opsJ
  rw [opsTo_len xss _ (Nat.le_refl _), List.take_of_length_le (by rw [lensX_len]; exact Nat.le_refl _)]
/-- Route and index. -/
def prO (l : List J) : List Pr := l.map fun j => (j.r, j.d)
/-- Machine and Time. -/
def opO (l : List J) : List Pr := l.map fun j => (j.t, j.w)
theorem prO_len (l : List J) : (prO l).length = l.length := by unfold prO; simp
theorem opO_len (l : List J) : (opO l).length = l.length := by unfold opO; simp
theorem prO_app (a b : List J) : prO (a ++ b) = prO a ++ prO b := by unfold prO; simp
theorem opO_app (a b : List J) : opO (a ++ b) = opO a ++ opO b := by unfold opO; simp
theorem opO_row (i : Nat) (r : List Pr) : opO (rowO i r r.length) = r := by
  unfold opO rowO
  apply List.ext_getElem
  · simp
  · intro k h1 h2
    simp [List.getD, h2]
/-- The numbers below k of those with a Machine. -/
def onL (l : List J) (q : Int) (k : Nat) : List Nat := (List.range k).filter fun i => decide ((l.getD i j0).t = q)
theorem onL_yes {l : List J} {q : Int} {k : Nat} (hk : k < l.length) (h : l[k].t = q) : onL l q (k + 1) = onL l q k ++ [k] := by
  unfold onL
  rw [List.range_succ, List.filter_append]
  simp [List.getD, hk, h]
theorem onL_no {l : List J} {q : Int} {k : Nat} (hk : k < l.length) (h : l[k].t ≠ q) : onL l q (k + 1) = onL l q k := by
  unfold onL
  rw [List.range_succ, List.filter_append]
  simp [List.getD, hk, h]
theorem onL_len (l : List J) (q : Int) (k : Nat) : (onL l q k).length ≤ k := by
  unfold onL
  exact Nat.le_trans (List.length_filter_le _ _) (by simp)
def opsR (m : Int) (xss : List (List Pr)) : List Pr × Bool := if jshB m xss then (prO (opsJ xss), true) else ([], false)
def onR (m : Int) (xss : List (List Pr)) (q : Int) : List Int × Bool := if jshB m xss && inB q 0 (m - 1) then (natI (onL (opsJ xss) q (opsJ xss).length), true) else ([], false)
theorem opO_get {l : List J} {k : Nat} (h : k < l.length) : (opO l)[k]'(by rw [opO_len]; exact h) = (l[k].t, l[k].w) := by unfold opO; simp
end Go.Proofs.Yteidhjmnononaaa
