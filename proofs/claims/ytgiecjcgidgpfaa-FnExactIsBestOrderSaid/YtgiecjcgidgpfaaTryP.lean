/- Plain words for the search's memory. -/
import Derived.Test.YtgiecjcgidgpfaaBestP
import Derived.Test.YtgiecjcgidgpfaaGainP
import Derived.Test.YtgiecjcgidgpfaaOwnM
namespace Go.Proofs.Ytgiecjcgidgpfaa
open Go.RowKit
theorem natI_len (p : List Nat) : (natI p).length = p.length := by unfold natI; simp
theorem natI_mem {p : List Nat} {k : Nat} : (k : Int) ∈ natI p ↔ k ∈ p := by
  unfold natI
  rw [List.mem_map]
  exact ⟨fun ⟨a, h, e⟩ => by rw [← Int.ofNat.inj e]; exact h, fun h => ⟨k, h, rfl⟩⟩
theorem natI_snoc (p : List Nat) (k : Nat) : natI (p ++ [k]) = natI p ++ [(k : Int)] := by unfold natI; simp
theorem nodup_perm {b : List Nat} {n : Nat} (hd : b.Nodup) (hb : ∀ j ∈ b, j < n) (hl : b.length = n) : b.Perm (List.range n) := by
  have hall : ∀ i, i < n → i ∈ b := fun i hi => Decidable.byContradiction fun hn => by
    have hd' : (i :: b).Nodup := List.nodup_cons.2 ⟨hn, hd⟩
    have hs : (i :: b) ⊆ List.range n := fun x hx => by
      rcases List.mem_cons.1 hx with h | h
      · subst h; exact List.mem_range.2 hi
      · exact List.mem_range.2 (hb x h)
    have := List.Nodup.length_le_of_subset hd' hs
    simp at this
    omega
  exact (List.perm_ext_iff_of_nodup hd List.nodup_range).2 fun a => ⟨fun h => List.mem_range.2 (hb a h), fun h => hall a (List.mem_range.1 h)⟩
theorem two_nat {js : List J} (hg : goodL js = true) {b : List Nat} (hp : b.Perm (List.range js.length)) : twoB js (natI b) = true := by
  obtain ⟨h8, _⟩ := good_out hg
  have hl : b.length = js.length := by have := hp.length_eq; simpa using this
  unfold twoB ordB
  rw [hg, Bool.true_and]
  refine decide_eq_true ⟨by omega, by omega, by rw [natI_len, hl], fun i hi => natI_mem.2 (hp.mem_iff.2 (List.mem_range.2 (by omega)))⟩
theorem partV_val {js : List J} {o : Int} {b : List Nat} (hp : b.Perm (List.range js.length)) : valOf o js (endsL js (natsOf (natI b))) = partV o js b := by
  rw [natsOf_natI, partV_full o js hp]
theorem leaf_n (b : List Nat) (v : Int) (t : Bst) : (leafB b v t).n ≤ max 1 (t.n + 1) := by
  unfold leafB
  split
  · simp
    try omega
  · split <;> simp <;> omega
theorem foldl_cnt (f : Bst → Nat → Bst) (M : Nat) (hM : 1 ≤ M) (hf : ∀ t j, (f t j).n ≤ max 1 (t.n + M)) : ∀ (l : List Nat) (t : Bst), (l.foldl f t).n ≤ max 1 (t.n + l.length * M) :=
  fun l t => foldl_count f l t hf hM
theorem specTry_n (o : Int) (js : List J) (h8 : js.length ≤ 8) : ∀ (m : Nat) (b : List Nat) (t : Bst), (specTry o js m b t).n ≤ max 1 (t.n + 8 ^ m)
  | 0, b, t => leaf_n b _ t
  | m + 1, b, t => by
    have hpos : 1 ≤ 8 ^ m := Nat.one_le_pow _ _ (by omega)
    have h := foldl_cnt (fun t j => if j ∈ b then t else specTry o js m (b ++ [j]) t) (8 ^ m) hpos (fun t j => by
      split
      · omega
      · exact specTry_n o js h8 m _ t) (List.range js.length) t
    simp only [List.length_range] at h
    have h2 : js.length * 8 ^ m ≤ 8 * 8 ^ m := Nat.mul_le_mul_right _ h8
    have h3 : 8 ^ (m + 1) = 8 * 8 ^ m := by rw [Nat.pow_succ, Nat.mul_comm]
    unfold specTry
    omega
/-- The search up to a job. -/
def tryTo (o : Int) (js : List J) (m : Nat) (b : List Nat) (t : Bst) (k : Nat) : Bst := (List.range k).foldl (fun t j => if j ∈ b then t else specTry o js m (b ++ [j]) t) t
theorem tryTo_zero (o : Int) (js : List J) (m : Nat) (b : List Nat) (t : Bst) : tryTo o js m b t 0 = t := rfl
theorem tryTo_in {o : Int} {js : List J} {m : Nat} {b : List Nat} {t : Bst} {k : Nat} (h : k ∈ b) : tryTo o js m b t (k + 1) = tryTo o js m b t k := by
  unfold tryTo; rw [List.range_succ, List.foldl_append]; simp [h]
theorem tryTo_out {o : Int} {js : List J} {m : Nat} {b : List Nat} {t : Bst} {k : Nat} (h : k ∉ b) : tryTo o js m b t (k + 1) = specTry o js m (b ++ [k]) (tryTo o js m b t k) := by
  unfold tryTo; rw [List.range_succ, List.foldl_append]; simp [h]
theorem tryTo_n (o : Int) (js : List J) (h8 : js.length ≤ 8) (m : Nat) (b : List Nat) (t : Bst) (k : Nat) : (tryTo o js m b t k).n ≤ max 1 (t.n + k * 8 ^ m) := by
  have hpos : 1 ≤ 8 ^ m := Nat.one_le_pow _ _ (by omega)
  have h := foldl_cnt (fun t j => if j ∈ b then t else specTry o js m (b ++ [j]) t) (8 ^ m) hpos (fun t j => by
      split
      · omega
      · exact specTry_n o js h8 m _ t) (List.range k) t
  simpa [tryTo] using h
theorem tryTo_cap {o : Int} {js : List J} (h8 : js.length ≤ 8) {m : Nat} {b : List Nat} {t : Bst} {k : Nat} (hk : k < js.length) {C : Nat} (hC : t.n + 8 ^ (m + 1) ≤ C) : (tryTo o js m b t k).n + 8 ^ m ≤ C := by
  have h := tryTo_n o js h8 m b t k
  have h3 : 8 ^ (m + 1) = 8 * 8 ^ m := by rw [Nat.pow_succ, Nat.mul_comm]
  have hpos : 1 ≤ 8 ^ m := Nat.one_le_pow _ _ (by omega)
  have h4 : k * 8 ^ m ≤ 7 * 8 ^ m := Nat.mul_le_mul_right _ (by omega)
  omega
/-- The best orders so far, in a struct of the model's. -/
def BestIs (B : Nat) (w : World) (t : Bst) (s : Value) : Prop := w.ownsRow B 3 1 s t.first.length (ic (natI t.first))
def bestV (t : Bst) (s : Value) : Value := .agg #[s, .int .i64 t.v, .int .i64 (t.n : Int)]
theorem BestIs.below {B : Nat} {w w' : World} {t : Bst} {s : Value} (h : BestIs B w t s) (hb : Below w.heap.size w w') : BestIs B w' t s := own_below h hb
end Go.Proofs.Ytgiecjcgidgpfaa
