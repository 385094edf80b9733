/- How great the value of a beginning can be. -/
import Derived.Test.YtjemjdlaoebffaaBestP
namespace Go.Proofs.Ytjemjdlaoebffaa
theorem last_snoc (js : List J) (b : List Nat) (j : Nat) : lastGo js (b ++ [j]) 0 = max (lastGo js b 0) (js.getD j j0).r + (js.getD j j0).t := lastGo_snoc js b j 0
theorem partV_bd {o : Int} (ho : isObj o = true) {js : List J} (hg : goodL js = true) : ∀ (n : Nat) (b : List Nat), b.length = n → n ≤ 8 → (∀ j ∈ b, j < js.length) → -500 ≤ partV o js b ∧ partV o js b ≤ 50000 * (n : Nat)
  | 0, b, h, _, _ => by
    have : b = [] := List.eq_nil_of_length_eq_zero h
    subst this
    show -500 ≤ (0 : Int) ∧ (0 : Int) ≤ _
    simp
  | n + 1, b, h, h8, hl => by
    obtain ⟨_, hok⟩ := good_out hg
    obtain ⟨b, j, rfl⟩ : ∃ b' j, b = b' ++ [j] := by
      have hne : b ≠ [] := fun e => by subst e; simp at h
      exact ⟨b.dropLast, b.getLast hne, (List.dropLast_concat_getLast hne).symm⟩
    have hb : ∀ k ∈ b, k < js.length := fun k hk => hl k (List.mem_append_left _ hk)
    have hj : j < js.length := hl j (by simp)
    simp only [List.length_append, List.length_singleton] at h
    have hbl : b.length = n := by omega
    obtain ⟨i1, i2⟩ := partV_bd ho hg n b hbl (by omega) hb
    have e0 := lastGo_nonneg hok hb
    have e1 := lastGo_bd hok b 0 0 hb (by omega) (by omega)
    obtain ⟨s0, s1⟩ := step_bd (m := b.length) (getD_ok hok hj) e0 (by omega)
    obtain ⟨c0, c1, c2⟩ := cost_bd ho (getD_ok hok hj) s0 (by omega)
    rw [partV_snoc]
    unfold extOf
    split
    · omega
    · split
      · omega
      · rename_i ht
        have := c2 (by simpa using ht)
        omega
end Go.Proofs.Ytjemjdlaoebffaa
