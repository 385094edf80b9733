/- Plain words for slacks. -/
import Derived.Test.YtjnaicgmfnhjeaaRulP
namespace Go.Proofs.Ytjnaicgmfnhjeaa
/-- At each place the least number from there on. -/
def slk : List Int → List Int
  | [] => []
  | [x] => [x]
  | x :: y :: xs => min x ((slk (y :: xs)).headD 0) :: slk (y :: xs)
theorem slk_len : ∀ xs : List Int, (slk xs).length = xs.length
  | [] => rfl
  | [_] => rfl
  | x :: y :: xs => by
    unfold slk
    have := slk_len (y :: xs)
    simp only [List.length_cons] at this ⊢
    omega
theorem slk_cons (x : Int) (xs : List Int) (h : 0 < xs.length) : slk (x :: xs) = min x ((slk xs)[0]'(by rw [slk_len]; exact h)) :: slk xs := by
  cases xs with
  | nil => cases h
  | cons y xs =>
    conv => lhs; unfold slk
    congr 1
    have hl : 0 < (slk (y :: xs)).length := by rw [slk_len]; simp
    rw [List.headD_eq_head?_getD, List.head?_eq_getElem?, List.getElem?_eq_getElem hl, Option.getD_some]
theorem slk_bd {a b : Int} : ∀ xs : List Int, (∀ x ∈ xs, a ≤ x ∧ x ≤ b) → ∀ x ∈ slk xs, a ≤ x ∧ x ≤ b
  | [], _, x, h => by cases h
  | [y], hx, x, h => hx x h
  | y :: z :: xs, hx, x, h => by
    have ih := slk_bd (z :: xs) (fun u hu => hx u (List.mem_cons_of_mem _ hu))
    rw [slk_cons y (z :: xs) (by simp)] at h
    rcases List.mem_cons.1 h with rfl | h
    · have h1 := hx y List.mem_cons_self
      have h2 := ih _ (List.getElem_mem (l := slk (z :: xs)) (n := 0) (by rw [slk_len]; simp))
      omega
    · exact ih x h
/-- What the places hold when those from k on are done. -/
def slkTo (g : List Int) (k : Nat) : List Int := List.replicate k 0 ++ slk (g.drop k)
theorem slkTo_len (g : List Int) (k : Nat) (h : k ≤ g.length) : (slkTo g k).length = g.length := by unfold slkTo; rw [List.length_append, slk_len]; simp; omega
theorem slkTo_zero (g : List Int) : slkTo g 0 = slk g := by unfold slkTo; simp
theorem slkTo_all (g : List Int) : slkTo g g.length = List.replicate g.length 0 := by unfold slkTo; simp [slk]
theorem slkTo_at (g : List Int) (k : Nat) (h : k < g.length) : (slkTo g (k + 1))[k]'(by rw [slkTo_len g (k + 1) h]; exact h) = 0 := by
  unfold slkTo
  rw [List.getElem_append_left (by simp)]; simp
theorem slkTo_next (g : List Int) (k : Nat) (h : k + 1 < g.length) : (slkTo g (k + 1))[k + 1]'(by rw [slkTo_len g (k + 1) (by omega)]; exact h) = (slk (g.drop (k + 1)))[0]'(by rw [slk_len]; simp; omega) := by
  unfold slkTo
  rw [List.getElem_append_right (by simp)]
  simp
theorem rep_set (k : Nat) (x : Int) (ys : List Int) : (List.replicate (k + 1) 0 ++ ys).set k x = List.replicate k 0 ++ x :: ys := by
  induction k with
  | zero => rfl
  | succ k ih =>
    show (0 : Int) :: ((List.replicate (k + 1) 0 ++ ys).set k x) = _
    rw [ih]; rfl
/-- The last place. -/
theorem slkTo_last (g : List Int) (k : Nat) (h : k + 1 = g.length) : (slkTo g (k + 1)).set k (g[k]'(by omega)) = slkTo g k := by
  unfold slkTo
  rw [rep_set, List.drop_eq_getElem_cons (show k < g.length by omega), List.drop_eq_nil_of_le (by omega)]
  rfl
/-- A place that has others behind it. -/
theorem slkTo_step (g : List Int) (k : Nat) (h : k + 1 < g.length) : (slkTo g (k + 1)).set k (min (g[k]'(by omega)) ((slkTo g (k + 1))[k + 1]'(by rw [slkTo_len g (k + 1) (by omega)]; exact h))) = slkTo g k := by
  rw [slkTo_next g k h]
  unfold slkTo
  rw [rep_set, List.drop_eq_getElem_cons (show k < g.length by omega), slk_cons _ _ (by simp; omega)]
theorem set_set' (l : List Int) (k : Nat) (a b : Int) : (l.set k a).set k b = l.set k b := by simp
/-- The limit and a Due date less an end, at each place. -/
def gsL (l : Int) (js : List J) (p : List Nat) : List Int := p.map fun j => l + (js.getD j j0).d - (endsL js p).getD j 0
theorem gsL_len (l : Int) (js : List J) (p : List Nat) : (gsL l js p).length = p.length := by unfold gsL; simp
theorem gsL_at (l : Int) (js : List J) (p : List Nat) (k : Nat) (h : k < p.length) : (gsL l js p)[k]'(by rw [gsL_len]; exact h) = l + (js.getD p[k] j0).d - (endsL js p).getD p[k] 0 := by unfold gsL; simp
theorem gsL_bd {l : Int} {js : List J} {p : List Nat} (hg : goodL js = true) (hp : p.Perm (List.range js.length)) (h0 : 0 ≤ l) (h1 : l ≤ 500) : ∀ x ∈ gsL l js p, -900 ≤ x ∧ x ≤ 1000 := by
  intro x hx
  obtain ⟨k, hk, rfl⟩ := List.mem_iff_getElem.1 hx
  rw [gsL_len] at hk
  rw [gsL_at l js p k hk]
  have hj : p[k] < js.length := perm_lt hp (List.getElem_mem hk)
  have hd := okJ_out (getD_ok (good_out hg).2 hj)
  have hl : p[k] < (endsL js p).length := by rw [endsL_len]; exact hj
  have he := endsL_bd hg hp _ (List.getElem_mem hl)
  rw [getD_at _ _ hl]
  omega
end Go.Proofs.Ytjnaicgmfnhjeaa
