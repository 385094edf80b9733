/- slices.Sort on a slice of one's own; slices.Contains on one. -/
import Derived.Test.YtjnaicgmfnhjeaaLeftP
import Derived.Test.YtjnaicgmfnhjeaaLateA
import Derived.Test.YtjnaicgmfnhjeaaShelf
import Derived.Sort.OwnSortedInts
namespace Go.Proofs.Ytjnaicgmfnhjeaa
open Go.RowKit Go.Sort
theorem sort_own {w : World} {B n c : Nat} {A : Option Addr} {l : List Nat} (h : w.ownsRow B 3 1 (.slice A n c) n (ic (natI l))) (hl : l.length = n) (hn : n ≤ 100000000) :
    Calls Try.prog 122 #[.slice A n c] w fun e w' => e = .returned (.tuple #[]) ∧ w'.ownsRow B 3 1 (.slice A n c) n (ic (natI (srtL l))) ∧ w.grownBy w' (Value.slice A n c).ownBlock := by
  rcases h.2 with ⟨hv, h0⟩ | ⟨g, cap, cur, hv, hb, hg, h1, h2, h3, h4⟩
  · subst h0
    have hln : l = [] := List.eq_nil_of_length_eq_zero hl
    subst hln
    refine (Try.slices_Sort_int_none A c w).mono ?_
    rintro e w' ⟨rfl, rfl⟩
    rw [show srtL [] = [] from List.eq_nil_of_length_eq_zero (by rw [srtL_len]; rfl)]
    exact ⟨rfl, h, World.grownBy.refl _ _⟩
  · injection hv with e1 e2 e3
    subst e1 e3
    subst hl
    have hln : (natI l).length = l.length := by simp
    have htk : cur.toList.take (natI l).length = (natI l).map (Value.int .i64) := by rw [hln]; rw [Nat.mul_one] at h4; exact h4
    have hsz : (natI l).length < 4611686018427387904 := by omega
    have H := Try.slices_Sort_int g 0 c (natI l) w (holds_of_blockI hg htk) (Array.getElem?_eq_some_iff.1 hg).1 hsz
    rw [hln] at H
    refine H.mono ?_
    rintro e w' ⟨rfl, m, os, rfl⟩
    refine ⟨rfl, ?_, grownBy_sortedI _⟩
    have hs := srtL_map l
    have ho := ownsRow_sortedI (n := m) (os := os) (ss := natI l) (ts := natI (srtL l)) (by simp [srtL_len]) hb hg (by rw [hln]; exact h1) h2 h3
    rw [hln] at ho
    unfold natI at ho ⊢
    rw [hs] at ho ⊢
    exact ho
theorem contains_own {w : World} {B n c : Nat} {A : Option Addr} {l : List Nat} (h : w.ownsRow B 3 1 (.slice A n c) n (ic (natI l))) (hl : l.length = n) (hn : n ≤ 100000000) (x : Nat) :
    Calls Try.prog 112 #[.slice A n c, .int .i64 (x : Int)] w fun e w' => e = .returned (.bool (decide (x ∈ l))) ∧ w = w' := by
  subst hl
  have hx : (natI l).contains (x : Int) = decide (x ∈ l) := by
    rw [Bool.eq_iff_iff, List.contains_iff_mem, decide_eq_true_eq]
    unfold natI
    rw [List.mem_map]
    constructor
    · rintro ⟨y, hy, e⟩
      have : y = x := Int.ofNat.inj e
      subst this; exact hy
    · intro hm; exact ⟨x, hm, rfl⟩
  rcases h.2 with ⟨hv, h0⟩ | ⟨g, cap, cur, hv, hb, hg, h1, h2, h3, h4⟩
  · have hln : l = [] := List.eq_nil_of_length_eq_zero h0
    subst hln
    refine (Try.slices_Contains_int_empty A c (x : Int) w).mono ?_
    rintro e w' ⟨rfl, rfl⟩
    exact ⟨rfl, rfl⟩
  · injection hv with e1 e2 e3
    subst e1 e3
    have hr := Row.of_own h
    have hln : (natI l).length = l.length := by simp
    have H := Try.slices_Contains_int g 0 (natI l).length c (natI l) (x : Int) w (Nat.le_refl _) (by omega) (fun j hj => by
      have := hr.cell0 (k := j) (by rw [ic_len]; exact hj)
      rw [Nat.zero_add, this, ic_get _ j hj, getD_at _ 0 hj])
    rw [List.take_length, hx, hln] at H
    refine H.mono ?_
    rintro e w' ⟨rfl, rfl⟩
    exact ⟨rfl, rfl⟩
end Go.Proofs.Ytjnaicgmfnhjeaa
