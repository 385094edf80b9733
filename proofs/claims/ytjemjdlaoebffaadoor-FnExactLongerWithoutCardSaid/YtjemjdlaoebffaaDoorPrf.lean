/- What a list of pairs tells: plain words for the program's way. -/
import Derived.Test.YtjemjdlaoebffaaDoorGroP
namespace Go.Proofs.YtjemjdlaoebffaaDoor
theorem edB_take (E : List Ed) {k : Nat} (hk : k < E.length) (i j : Nat) : edB (E.take (k + 1)) i j = (edB (E.take k) i j || decide (((i : Int), (j : Int)) = E[k])) := by
  unfold edB
  rw [List.take_succ_eq_append_getElem hk, Bool.eq_iff_iff, Bool.or_eq_true, List.contains_iff_mem, List.contains_iff_mem, decide_eq_true_iff, List.mem_append, List.mem_singleton]
theorem bef_edge {n : Nat} (hn : n ≤ 8) (E : List Ed) {k : Nat} (hk : k < E.length) {a b : Nat} (ha : a < n) (he : E[k] = ((a : Int), (b : Int))) (j : Nat) :
    (if j = b then addB (befN n (edB (E.take k)) b) a else befN n (edB (E.take k)) j) = befN n (edB (E.take (k + 1))) j := by
  have key : ∀ i, edB (E.take (k + 1)) i j = (edB (E.take k) i j || decide (i = a ∧ j = b)) := fun i => by
    rw [edB_take E hk, he]
    congr 1
    rw [decide_eq_decide, Prod.mk.injEq]
    omega
  split
  · rename_i h
    subst h
    refine set_ext (add_lt (bef_lt hn _ _) (by omega)) (bef_lt hn _ _) fun i _ => ?_
    rw [bit_add, bef_bit, bef_bit, key]
    by_cases h1 : i = a
    · subst h1; simp [ha]
    · simp [h1]
  · rename_i h
    refine set_ext (bef_lt hn _ _) (bef_lt hn _ _) fun i _ => ?_
    rw [bef_bit, bef_bit, key]
    simp [h]
theorem bef_none (n j : Nat) (E : List Ed) : befN n (edB (E.take 0)) j = 0 := by
  unfold befN bitsN
  have : ∀ l : List Nat, l.foldl (fun s i => if edB (E.take 0) i j then addB s i else s) 0 = 0 := by
    intro l
    induction l with
    | nil => rfl
    | cons x l ih => rw [List.foldl_cons, if_neg (by simp [edB])]; exact ih
  exact this _
theorem bef_all {n : Nat} (hn : n ≤ 8) (E : List Ed) {t : Nat} (h : InE n E) (j : Nat) : (if j < n then befN n (growTo n E t) j ||| orAll (befN n (growTo n E t)) (befN n (growTo n E t) j) else befN n (growTo n E t) j) = befN n (growTo n E (t + 1)) j := by
  split
  · exact grow_bits hn (growTo n E t) j
  · rename_i hj
    refine set_ext (bef_lt hn _ _) (bef_lt hn _ _) fun i _ => ?_
    rw [bef_bit, bef_bit]
    have h1 : ∀ t, growTo n E t i j = false := fun t => by
      cases hh : growTo n E t i j
      · rfl
      · exact absurd (growTo_in h t i j hh).2 hj
    rw [h1, h1]
theorem bef_same {n : Nat} (E : List Ed) {t : Nat} (h : InE n E) (hs : ∀ j, j < 8 → befN n (growTo n E (t + 1)) j = befN n (growTo n E t) j) (hn : n ≤ 8) : ∀ i j, growTo n E t i j = tabB n E i j :=
  grow_stop h (grow_same _ _ fun j hj => hs j (by omega))
theorem bef_more {n : Nat} (E : List Ed) {t : Nat} (hs : ¬ ∀ j, j < 8 → befN n (growTo n E (t + 1)) j = befN n (growTo n E t) j) (h : InE n E) : cntB n (growTo n E t) < cntB n (growTo n E (t + 1)) := by
  refine grow_more fun hh => hs fun j _ => ?_
  by_cases hj : j < n
  · unfold befN bitsN
    have : ∀ (l : List Nat) (a : Nat), (∀ i ∈ l, i < n) → l.foldl (fun s i => if growTo n E (t + 1) i j then addB s i else s) a = l.foldl (fun s i => if growTo n E t i j then addB s i else s) a := by
      intro l
      induction l with
      | nil => intros; rfl
      | cons x l ih =>
        intro a hl
        rw [List.foldl_cons, List.foldl_cons]
        have hx : growTo n E (t + 1) x j = growTo n E t x j := hh x j (hl x List.mem_cons_self) hj
        rw [hx]
        exact ih _ fun i hi => hl i (List.mem_cons_of_mem _ hi)
    exact this _ _ fun i hi => List.mem_range.1 hi
  · have h1 : ∀ t i, growTo n E t i j = false := fun t i => by
      cases hg : growTo n E t i j
      · rfl
      · exact absurd (growTo_in h t i j hg).2 hj
    unfold befN
    congr 1
    funext i
    rw [h1, h1]
end Go.Proofs.YtjemjdlaoebffaaDoor
