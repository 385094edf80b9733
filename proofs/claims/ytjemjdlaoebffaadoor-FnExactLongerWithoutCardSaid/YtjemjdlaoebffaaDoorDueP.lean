/- Plain words for due order. -/
import Derived.Test.YtjemjdlaoebffaaDoorIdleP
namespace Go.Proofs.YtjemjdlaoebffaaDoor
/-- A job comes before another one in due order. -/
def soonB (js : List J) (i k : Nat) : Bool :=
  if (js.getD i j0).d ≠ (js.getD k j0).d then decide ((js.getD i j0).d < (js.getD k j0).d)
  else if (js.getD i j0).t ≠ (js.getD k j0).t then decide ((js.getD i j0).t < (js.getD k j0).t) else decide (i < k)
/-- A job put behind all that come before it. -/
def insD (js : List J) (x : Nat) : List Nat → List Nat
  | [] => [x]
  | y :: ys => if soonB js y x then y :: insD js x ys else x :: y :: ys
def dueTo (js : List J) (l : List Nat) : Nat → List Nat
  | 0 => []
  | k + 1 => insD js (l.getD k 0) (dueTo js l k)
def dueL (js : List J) (l : List Nat) : List Nat := dueTo js l l.length
theorem insD_perm (js : List J) (x : Nat) : ∀ ys : List Nat, (insD js x ys).Perm (x :: ys)
  | [] => List.Perm.refl _
  | y :: ys => by
    unfold insD
    split
    · exact ((insD_perm js x ys).cons y).trans (List.Perm.swap x y ys)
    · exact List.Perm.refl _
theorem insD_at (js : List J) (x : Nat) : ∀ (ys : List Nat) (k : Nat), k ≤ ys.length → (∀ a ∈ ys.take k, soonB js a x = true) → (∀ h : k < ys.length, soonB js ys[k] x = false) → insD js x ys = ys.take k ++ [x] ++ ys.drop k
  | [], k, _, _, _ => by simp [insD]
  | y :: ys, 0, _, _, h => by
    have := h (by simp)
    simp only [List.getElem_cons_zero] at this
    unfold insD
    rw [this]
    rfl
  | y :: ys, k + 1, hk, h1, h2 => by
    have hy : soonB js y x = true := h1 y (by simp)
    unfold insD
    rw [if_pos hy, insD_at js x ys k (by simpa using hk) (fun a ha => h1 a (by simp [ha])) (fun h => by have := h2 (by simpa using h); simpa using this)]
    simp
theorem dueTo_len (js : List J) (l : List Nat) : ∀ k, (dueTo js l k).length = k
  | 0 => rfl
  | k + 1 => by
    have := (insD_perm js (l.getD k 0) (dueTo js l k)).length_eq
    unfold dueTo
    rw [this, List.length_cons, dueTo_len js l k]
theorem dueTo_perm (js : List J) (l : List Nat) : ∀ k, k ≤ l.length → (dueTo js l k).Perm (l.take k)
  | 0, _ => by simp [dueTo]
  | k + 1, h => by
    have e : l.take (k + 1) = l.take k ++ [l.getD k 0] := by
      rw [List.take_succ_eq_append_getElem (by omega)]
      congr 2
      simp [List.getD, show k < l.length by omega]
    unfold dueTo
    rw [e]
    exact ((insD_perm js _ _).trans ((dueTo_perm js l k (by omega)).cons _)).trans (List.perm_append_singleton _ _).symm
theorem dueTo_mem {js : List J} {l : List Nat} {k x : Nat} (hk : k ≤ l.length) (h : x ∈ dueTo js l k) : x ∈ l := List.mem_of_mem_take ((dueTo_perm js l k hk).mem_iff.1 h)
theorem dueL_perm (js : List J) (l : List Nat) : (dueL js l).Perm l := by
  have := dueTo_perm js l l.length (Nat.le_refl _)
  rwa [List.take_length] at this
theorem dueL_len (js : List J) (l : List Nat) : (dueL js l).length = l.length := dueTo_len _ _ _
/-- What the program compares. -/
def cmpD (js : List J) (i k : Nat) : Int :=
  if (js.getD i j0).d - (js.getD k j0).d ≠ 0 then (js.getD i j0).d - (js.getD k j0).d
  else if (js.getD i j0).t - (js.getD k j0).t ≠ 0 then (js.getD i j0).t - (js.getD k j0).t else (i : Int) - k
theorem soon_gen (a b c d : Int) (i k : Nat) : (if a ≠ b then decide (a < b) else if c ≠ d then decide (c < d) else decide (i < k)) = decide ((if a - b ≠ 0 then a - b else if c - d ≠ 0 then c - d else (i : Int) - k) < 0) := by
  by_cases h1 : a = b
  · subst h1
    by_cases h2 : c = d
    · subst h2
      simp
      omega
    · have h3 : ¬ c - d = 0 := by omega
      simp [h2, h3]
      omega
  · have h3 : ¬ a - b = 0 := by omega
    simp [h1, h3]
    omega
theorem cmpD_soon (js : List J) (i k : Nat) : soonB js i k = decide (cmpD js i k < 0) := soon_gen _ _ _ _ i k
theorem soon_total {js : List J} {i k : Nat} (h : i ≠ k) (h1 : soonB js i k = false) : soonB js k i = true := by
  rw [cmpD_soon] at *
  have h2 := of_decide_eq_false h1
  refine decide_eq_true ?_
  unfold cmpD at *
  split at h2 <;> split <;> first | omega | (split at h2 <;> split <;> omega)
theorem soon_trans {js : List J} {i k m : Nat} (h1 : soonB js i k = true) (h2 : soonB js k m = true) : soonB js i m = true := by
  rw [cmpD_soon] at *
  have h1 := of_decide_eq_true h1
  have h2 := of_decide_eq_true h2
  refine decide_eq_true ?_
  unfold cmpD at *
  (repeat' split at h1) <;> (repeat' split at h2) <;> (repeat' split) <;> omega
end Go.Proofs.YtjemjdlaoebffaaDoor
