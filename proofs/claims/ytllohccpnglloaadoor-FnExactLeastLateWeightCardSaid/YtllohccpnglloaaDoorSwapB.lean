/- Copies of one's own; two neighbors exchanged in a copy: the model's. -/
import Derived.Test.YtllohccpnglloaaDoorEndsO
import Derived.Test.YtllohccpnglloaaDoorAppW
import Derived.Laws.Cover3
import Derived.RegionTactic
import Derived.BigRegion
namespace Go.Proofs.YtllohccpnglloaaDoor
open Go.RowKit
theorem own_whole {w : World} {base : Nat} {v : Value} {n : Nat} {cs : List Value} (h : w.ownsRow base 3 1 v n cs) : ∃ A c, v = .slice A n c ∧ Row w A cs := by
  obtain ⟨A, c, rfl, _, hr⟩ := own_slice h
  exact ⟨A, c, rfl, hr⟩
theorem not_nil {w : World} {base n : Nat} {v : Value} {cs : List Value} (h : w.ownsRow base 3 1 v n cs) (hn : v ≠ .slice none 0 0) : ∃ ad c, v = .slice (some ad) n c := by
  rcases h.2 with ⟨hv, _⟩ | ⟨g, cap, cur, hv, _⟩
  · exact absurd hv hn
  · exact ⟨_, _, hv⟩
theorem row_src {w : World} {ad : Addr} {cs : List Value} (h : Row w (some ad) cs) : ∀ j u, cs[j]? = some u → w.cell? (ad.add j) = some u := by
  intro j u hu
  obtain ⟨a', h1, _, h3⟩ := h (Nat.lt_of_le_of_lt (Nat.zero_le _) (List.getElem?_eq_some_iff.1 hu).1)
  obtain rfl := Option.some.inj h1
  exact h3 j u hu
/-- Two neighbors exchanged. -/
def swI (xs : List Int) (i : Nat) : List Int := (xs.set i (xs.getD (i + 1) 0)).set (i + 1) (xs.getD i 0)
theorem swI_len (xs : List Int) (i : Nat) : (swI xs i).length = xs.length := by unfold swI; simp
theorem take_set {cur : Array Value} {n i : Nat} {cs : List Value} (h : cur.toList.take n = cs) (hi : i < n) (v : Value) : (cur.setIfInBounds i v).toList.take n = cs.set i v := by
  subst h
  apply List.ext_getElem?
  intro j
  by_cases hj : j < n
  · rw [List.getElem?_take, if_pos hj, Array.getElem?_toList, Array.getElem?_setIfInBounds, List.getElem?_set]
    by_cases e : i = j
    · subst e
      by_cases hc : i < cur.size
      · simp [hc]; omega
      · simp [hc]; omega
    · rw [if_neg e, if_neg e, List.getElem?_take, if_pos hj, Array.getElem?_toList]
  · rw [List.getElem?_eq_none (by simp; omega), List.getElem?_eq_none (by simp; omega)]
theorem ic_setv (xs : List Int) (j : Nat) (x : Int) : (ic xs).set j (.int .i64 x) = ic (xs.set j x) := by unfold ic; rw [List.map_set]
theorem own_swapped {w : World} {B g c n i : Nat} {cur : Array Value} {xs : List Int} (h : BlockIs w g 3 ((cur.setIfInBounds i (.int .i64 (xs.getD (i + 1) 0))).setIfInBounds (i + 1) (.int .i64 (xs.getD i 0)))) (hg : B ≤ g) (hn : n ≤ c) (hc : c ≤ maxLen) (hs : cur.size = c * 1) (ht : cur.toList.take (n * 1) = ic xs) (hi : i + 1 < n) :
    w.ownsRow B 3 1 (.slice (some ⟨g, 0, none⟩) n c) n (ic (swI xs i)) := by
  have := h.own (base := B) (n := n) (c := c) (size := 1) hg (by simp [hs]) hn hc (by simp; omega)
  rw [Nat.mul_one] at this ht
  rwa [take_set (take_set ht (by omega) _) (by omega) _, ic_setv, ic_setv] at this
theorem cell_take {w : World} {g : Nat} {cur : Array Value} {n : Nat} {xs : List Int} (h : BlockIs w g 3 cur) (ht : cur.toList.take (n * 1) = ic xs) {k : Nat} (hk : k < xs.length) : w.cell? ⟨g, k, none⟩ = some (.int .i64 xs[k]) := by
  rw [h.cell]
  have h1 : (cur.toList.take (n * 1))[k]? = some (.int .i64 xs[k]) := by
    rw [ht, List.getElem?_eq_getElem (by rw [ic_len]; exact hk), ic_get]
  rw [List.getElem?_take] at h1
  split at h1
  · rwa [Array.getElem?_toList] at h1
  · cases h1
end Go.Proofs.YtllohccpnglloaaDoor
