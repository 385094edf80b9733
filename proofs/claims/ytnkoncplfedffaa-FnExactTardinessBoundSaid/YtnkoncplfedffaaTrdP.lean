/- Plain words for the tardiness bound: numbers in ascending order, one put behind those that are not greater. -/
import Derived.Test.YtnkoncplfedffaaJobP
namespace Go.Proofs.Ytnkoncplfedffaa
def insI (x : Int) : List Int → List Int
  | [] => [x]
  | y :: ys => if y ≤ x then y :: insI x ys else x :: y :: ys
/-- The first k numbers of a list in ascending order. -/
def sortTo (xs : List Int) : Nat → List Int
  | 0 => []
  | k + 1 => insI (xs.getD k 0) (sortTo xs k)
def sortI (xs : List Int) : List Int := sortTo xs xs.length
theorem insI_perm (x : Int) : ∀ ys : List Int, (insI x ys).Perm (x :: ys)
  | [] => List.Perm.refl _
  | y :: ys => by
    unfold insI
    split
    · exact ((insI_perm x ys).cons y).trans (List.Perm.swap x y ys)
    · exact List.Perm.refl _
theorem insI_asc (x : Int) : ∀ ys : List Int, ys.Pairwise (· ≤ ·) → (insI x ys).Pairwise (· ≤ ·)
  | [], _ => by unfold insI; exact List.pairwise_singleton _ _
  | y :: ys, h => by
    obtain ⟨h1, h2⟩ := List.pairwise_cons.1 h
    unfold insI
    split
    · rename_i hyx
      refine List.pairwise_cons.2 ⟨fun z hz => ?_, insI_asc x ys h2⟩
      rcases List.mem_cons.1 ((insI_perm x ys).mem_iff.1 hz) with e | e
      · rw [e]; exact hyx
      · exact h1 z e
    · rename_i hyx
      refine List.pairwise_cons.2 ⟨fun z hz => ?_, h⟩
      rcases List.mem_cons.1 hz with e | e
      · rw [e]; omega
      · have := h1 z e; omega
theorem insI_at (x : Int) : ∀ (ys : List Int) (k : Nat), k ≤ ys.length → (∀ a ∈ ys.take k, a ≤ x) → (∀ h : k < ys.length, x < ys[k]) → insI x ys = ys.take k ++ [x] ++ ys.drop k
  | [], k, _, _, _ => by simp [insI]
  | y :: ys, 0, _, _, h => by
    have := h (by simp)
    simp only [List.getElem_cons_zero] at this
    unfold insI
    rw [if_neg (by omega)]
    rfl
  | y :: ys, k + 1, hk, h1, h2 => by
    have hy : y ≤ x := h1 y (by simp)
    unfold insI
    rw [if_pos hy, insI_at x ys k (by simpa using hk) (fun a ha => h1 a (by simp [ha])) (fun h => by have := h2 (by simpa using h); simpa using this)]
    simp
theorem sortTo_len (xs : List Int) : ∀ k, (sortTo xs k).length = k
  | 0 => rfl
  | k + 1 => by
    have := (insI_perm (xs.getD k 0) (sortTo xs k)).length_eq
    unfold sortTo
    rw [this, List.length_cons, sortTo_len xs k]
theorem sortTo_perm (xs : List Int) : ∀ k, k ≤ xs.length → (sortTo xs k).Perm (xs.take k)
  | 0, _ => by simp [sortTo]
  | k + 1, h => by
    have e : xs.take (k + 1) = xs.take k ++ [xs.getD k 0] := by
      rw [List.take_succ_eq_append_getElem (by omega)]
      congr 2
      simp [List.getD, show k < xs.length by omega]
    unfold sortTo
    rw [e]
    exact ((insI_perm _ _).trans ((sortTo_perm xs k (by omega)).cons _)).trans (List.perm_append_singleton _ _).symm
theorem sortTo_asc (xs : List Int) : ∀ k, (sortTo xs k).Pairwise (· ≤ ·)
  | 0 => List.Pairwise.nil
  | k + 1 => insI_asc _ _ (sortTo_asc xs k)
theorem sortI_len (xs : List Int) : (sortI xs).length = xs.length := sortTo_len _ _
theorem sortI_perm (xs : List Int) : (sortI xs).Perm xs := by
  have := sortTo_perm xs xs.length (Nat.le_refl _)
  rwa [List.take_length] at this
theorem sortI_merge (xs : List Int) : xs.mergeSort (fun x y => decide (x ≤ y)) = sortI xs := by
  have h1 : (xs.mergeSort (fun x y => decide (x ≤ y))).Pairwise (fun x y => decide (x ≤ y) = true) := List.pairwise_mergeSort (fun a b c h1 h2 => by simp only [decide_eq_true_eq] at *; omega) (fun a b => by simp only [Bool.or_eq_true, decide_eq_true_eq]; omega) xs
  refine ((List.mergeSort_perm xs _).trans (sortI_perm xs).symm).eq_of_pairwise (le := fun x y => x ≤ y) (fun a b _ _ h1 h2 => by omega) (h1.imp (fun h => by simpa using h)) (sortTo_asc xs _)
/-- The bound: the sums of the first times, less the dates, as far as these are greater than 0. -/
def bndT : List Int → List Int → Int → Int → Int
  | t :: ts, d :: ds, now, sum => bndT ts ds (now + t) (sum + max (now + t - d) 0)
  | _, _, _, sum => sum
/-- ..of the first k numbers: the sum of times, and the bound. -/
def endTo (ts : List Int) (k : Nat) : Int := (ts.take k).sum
def bndTo (ts ds : List Int) : Nat → Int
  | 0 => 0
  | k + 1 => bndTo ts ds k + max (endTo ts (k + 1) - ds.getD k 0) 0
theorem endTo_succ (ts : List Int) (k : Nat) (h : k < ts.length) : endTo ts (k + 1) = endTo ts k + ts[k] := by
  unfold endTo; rw [List.take_succ_eq_append_getElem h, List.sum_append]; simp
theorem endTo_bd (ts : List Int) (h : ∀ t ∈ ts, 0 ≤ t ∧ t ≤ 50) : ∀ k, k ≤ ts.length → 0 ≤ endTo ts k ∧ endTo ts k ≤ 50 * (k : Int)
  | 0, _ => by simp [endTo]
  | k + 1, hk => by
    have h1 := endTo_bd ts h k (by omega)
    have h2 := h _ (List.getElem_mem (show k < ts.length by omega))
    rw [endTo_succ ts k (by omega)]
    omega
theorem bndTo_bd (ts ds : List Int) (h : ∀ t ∈ ts, 0 ≤ t ∧ t ≤ 50) (hd : ∀ d ∈ ds, 0 ≤ d ∧ d ≤ 500) : ∀ k, k ≤ ts.length → k ≤ ds.length → k ≤ 8 → 0 ≤ bndTo ts ds k ∧ bndTo ts ds k ≤ 400 * (k : Int)
  | 0, _, _, _ => by simp [bndTo]
  | k + 1, hk, hk2, h8 => by
    have h1 := bndTo_bd ts ds h hd k (by omega) (by omega) (by omega)
    have h2 := endTo_bd ts h (k + 1) hk
    have h3 : ds.getD k 0 = ds[k] := by simp [List.getD, show k < ds.length by omega]
    have h4 := hd _ (List.getElem_mem (show k < ds.length by omega))
    unfold bndTo
    rw [h3]
    omega
def timesJ (js : List J) : List Int := js.map (·.t)
def datesJ (js : List J) : List Int := js.map (·.d)
def tardL (js : List J) : Int := bndTo (sortI (timesJ js)) (sortI (datesJ js)) js.length
theorem sort_times {js : List J} (h : goodL js = true) : ∀ t ∈ sortI (timesJ js), 0 ≤ t ∧ t ≤ 50 := by
  intro t ht
  obtain ⟨j, hj, rfl⟩ := List.mem_map.1 ((sortI_perm _).mem_iff.1 ht)
  have := okJ_out ((good_out h).2 j hj)
  omega
theorem sort_dates {js : List J} (h : goodL js = true) : ∀ t ∈ sortI (datesJ js), 0 ≤ t ∧ t ≤ 500 := by
  intro t ht
  obtain ⟨j, hj, rfl⟩ := List.mem_map.1 ((sortI_perm _).mem_iff.1 ht)
  have := okJ_out ((good_out h).2 j hj)
  omega
end Go.Proofs.Ytnkoncplfedffaa
