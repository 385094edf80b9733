/- Plain words for the program's search. -/
import Derived.Test.YtgiecjcgidgpfaaTryP
import Derived.Test.YtgiecjcgidgpfaaBfQ
namespace Go.Proofs.Ytgiecjcgidgpfaa
theorem progTry_n (o : Int) (js : List J) (h8 : js.length ≤ 8) : ∀ (m : Nat) (b : List Nat) (t : Bst), (progTry o js m b t).n ≤ max 1 (t.n + 8 ^ m)
  | 0, b, t => by
    unfold progTry
    split
    · omega
    · exact leaf_n b _ t
  | m + 1, b, t => by
    have hpos : 1 ≤ 8 ^ m := Nat.one_le_pow _ _ (by omega)
    have h := foldl_cnt (fun t j => if j ∈ b then t else progTry o js m (b ++ [j]) t) (8 ^ m) hpos (fun t j => by
      split
      · omega
      · exact progTry_n o js h8 m _ t) (List.range js.length) t
    simp only [List.length_range] at h
    have h2 : js.length * 8 ^ m ≤ 8 * 8 ^ m := Nat.mul_le_mul_right _ h8
    have h3 : 8 ^ (m + 1) = 8 * 8 ^ m := by rw [Nat.pow_succ, Nat.mul_comm]
    unfold progTry
    split
    · omega
    · omega
/-- The search up to a job. -/
def progTo (o : Int) (js : List J) (m : Nat) (b : List Nat) (t : Bst) (k : Nat) : Bst := (List.range k).foldl (fun t j => if j ∈ b then t else progTry o js m (b ++ [j]) t) t
theorem progTo_zero (o : Int) (js : List J) (m : Nat) (b : List Nat) (t : Bst) : progTo o js m b t 0 = t := rfl
theorem progTo_in {o : Int} {js : List J} {m : Nat} {b : List Nat} {t : Bst} {k : Nat} (h : k ∈ b) : progTo o js m b t (k + 1) = progTo o js m b t k := by
  unfold progTo; rw [List.range_succ, List.foldl_append]; simp [h]
theorem progTo_out {o : Int} {js : List J} {m : Nat} {b : List Nat} {t : Bst} {k : Nat} (h : k ∉ b) : progTo o js m b t (k + 1) = progTry o js m (b ++ [k]) (progTo o js m b t k) := by
  unfold progTo; rw [List.range_succ, List.foldl_append]; simp [h]
theorem progTo_n (o : Int) (js : List J) (h8 : js.length ≤ 8) (m : Nat) (b : List Nat) (t : Bst) (k : Nat) : (progTo o js m b t k).n ≤ max 1 (t.n + k * 8 ^ m) := by
  have hpos : 1 ≤ 8 ^ m := Nat.one_le_pow _ _ (by omega)
  have h := foldl_cnt (fun t j => if j ∈ b then t else progTry o js m (b ++ [j]) t) (8 ^ m) hpos (fun t j => by
      split
      · omega
      · exact progTry_n o js h8 m _ t) (List.range k) t
  simpa [progTo] using h
theorem progTo_cap {o : Int} {js : List J} (h8 : js.length ≤ 8) {m : Nat} {b : List Nat} {t : Bst} {k : Nat} (hk : k < js.length) {C : Nat} (hC : t.n + 8 ^ (m + 1) ≤ C) : (progTo o js m b t k).n + 8 ^ m ≤ C := by
  have h := progTo_n o js h8 m b t k
  have h3 : 8 ^ (m + 1) = 8 * 8 ^ m := by rw [Nat.pow_succ, Nat.mul_comm]
  have hpos : 1 ≤ 8 ^ m := Nat.one_le_pow _ _ (by omega)
  have h4 : k * 8 ^ m ≤ 7 * 8 ^ m := Nat.mul_le_mul_right _ (by omega)
  omega
theorem prog_cut {o : Int} {js : List J} {m : Nat} {b : List Nat} {t : Bst} (h : 0 < t.n ∧ t.v < partV o js b) : progTry o js m b t = t := by
  cases m <;> (unfold progTry; rw [if_pos h])
theorem prog_leaf {o : Int} {js : List J} {b : List Nat} {t : Bst} (h : ¬ (0 < t.n ∧ t.v < partV o js b)) : progTry o js 0 b t = leafB b (partV o js b) t := by
  unfold progTry; rw [if_neg h]
theorem prog_step {o : Int} {js : List J} {m : Nat} {b : List Nat} {t : Bst} (h : ¬ (0 < t.n ∧ t.v < partV o js b)) : progTry o js (m + 1) b t = progTo o js m b t js.length := by
  unfold progTry progTo; rw [if_neg h]
end Go.Proofs.Ytgiecjcgidgpfaa
