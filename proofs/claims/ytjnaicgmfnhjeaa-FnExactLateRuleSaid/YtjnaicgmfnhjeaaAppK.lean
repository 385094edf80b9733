/- append to a slice of the call's own: what was in it stays where it was. -/
import Derived.Test.YtjnaicgmfnhjeaaAppW
import Derived.Laws.Tables
namespace Go.Proofs.Ytjnaicgmfnhjeaa
open Go.RowKit
section
variable {P : Program} (w : World)
theorem append_keep (base : Nat) (t ty e : TypeId) (i : TypeInfo) (z : Value) (size bytes : Nat) (ht : P.underlying t = some (.slice e)) (hi : P.info? e = some i) (hz : i.zero = some z)
    (hsize : i.size = size) (hby : i.bytes = bytes) (hzs : z.cells.size = size) (hsz : 0 < size)
    (v : Value) (n : Nat) (xs : List Value) (hown : w.ownsRow base e size v n xs)
    (a : Addr) (m c : Nat) (news : List Value) (hl : news.length = m * size) (hnews : ∀ j u, news[j]? = some u → w.cell? (a.add j) = some u) (h1 : ∀ u ∈ news, u.oneCell' = true) (hm0 : 0 < m)
    (h63 : n + m ≤ maxLen) (hbytes : (n + m) * bytes ≤ 140737488355328) (hbase : base ≤ w.heap.size) :
    ∃ v' w', (Builtin.append_ #[t, t] ty #[v, .slice (some a) m c]).run P w = .ok v' w' ∧ w'.ownsRow base e size v' (n + m) (xs ++ news) ∧ w.grownBy w' v.ownBlock ∧ (v'.ownBlock = v.ownBlock ∨ v'.ownBlock = some w.heap.size) ∧
      ∀ g, v.ownBlock = some g → ∃ cur, BlockIs w' g e cur ∧ (∀ old, BlockIs w g e old → cur.size = old.size) ∧ cur.toList.take (n * size) = xs := by
  obtain ⟨v', w', hr, h2, h3, _⟩ := run_append_own (P := P) w base t ty e i z size bytes ht hi hz hsize hby hzs hsz v n xs hown a m c news hl hnews h1 h63 hbytes hbase
  refine ⟨v', w', hr, h2, h3, ?_⟩
  subst hsize hby
  have hml : n + m ≤ 9223372036854775807 := by simp only [maxLen] at h63; omega
  rcases id hown.2 with ⟨rfl, rfl⟩ | ⟨g, cap, cur, rfl, hbg, hg, hnc, hcm, hcs, htake⟩
  · have hr' := run_append_nil (P := P) w t ty e i z ht hi hz a m c news hl hnews hm0 (by omega) (by have hb := hbytes; simp only [Nat.zero_add] at hb; omega)
    rw [hr] at hr'
    injection hr' with hv
    subst hv
    exact ⟨.inr rfl, fun g h => by cases h⟩
  · have hG : ∀ q, (Value.slice (some ⟨g, 0, none⟩) n cap).ownBlock = some q → g = q := fun q h => Option.some.inj h
    by_cases hroom : n + m ≤ cap
    · have hfit : n * i.size + news.length ≤ cur.size := by rw [hl, hcs, ← Nat.add_mul]; exact Nat.mul_le_mul_right _ hroom
      have hr' := run_append_room (P := P) w t ty e i ht hi g n cap cur hg a m c news hl hnews h1 hroom hfit
      rw [hr] at hr'
      injection hr' with hv hw
      subst hv hw
      refine ⟨.inl rfl, fun q hq => ?_⟩
      obtain rfl := hG q hq
      refine ⟨_, setRow_heap _ _ _ _ _ _ hg, fun old ho => ?_, ?_⟩
      · unfold BlockIs at ho
        rw [hg] at ho
        injection ho with ho
        injection ho with ho
        subst ho
        simp; omega
      have e1 : (cur.toList.take (n * i.size)).length = n * i.size := by
        have := hown.1
        rw [← htake] at this; exact this
      show ((cur.toList.take (n * i.size) ++ news) ++ cur.toList.drop (n * i.size + news.length)).take (n * i.size) = xs
      rw [List.append_assoc, List.take_append_of_le_length (by omega), List.take_of_length_le (by omega)]
      exact htake
    · have hr' := run_append_grow (P := P) w t ty e i z ht hi hz ⟨g, 0, none⟩ n cap xs hown.1 (hown.cells (g := g) rfl) a m c news hl hnews (by omega) (by omega) (growslice_fits (by omega) hbytes)
      rw [hr] at hr'
      injection hr' with hv hw
      subst hv hw
      refine ⟨.inr rfl, fun q hq => ?_⟩
      obtain rfl := hG q hq
      refine ⟨cur, (heap_alloc_old w.drew _ (Array.getElem?_eq_some_iff.1 hg).1).trans hg, fun old ho => ?_, htake⟩
      unfold BlockIs at ho
      rw [hg] at ho
      injection ho with ho
      injection ho with ho
      rw [ho]
end
/-- A slice that is the first part of another one's cells stays as it is. -/
theorem row_part {w w' : World} {base n size : Nat} {e : TypeId} {v : Value} {xs ys : List Value} {A : Option Addr} {c l : Nat} (hA : w.ownsRow base e size (.slice A l c) l xs) (hg : w.grownBy w' v.ownBlock) (hp : xs = ys.take xs.length)
    (hk : ∀ g, v.ownBlock = some g → ∃ cur, BlockIs w' g e cur ∧ (∀ old, BlockIs w g e old → cur.size = old.size) ∧ cur.toList.take (n * size) = ys) : w'.ownsRow base e size (.slice A l c) l xs := by
  refine ⟨hA.1, ?_⟩
  rcases hA.2 with hn | ⟨g, cap, cur, hv, hB, hgk, h1, h2, h3, h4⟩
  · exact .inl hn
  · by_cases e : v.ownBlock = some g
    · obtain ⟨cur', hb, hz, ht⟩ := hk g e
      refine .inr ⟨g, cap, cur', hv, hB, hb, h1, h2, (hz cur hgk).trans h3, ?_⟩
      have hl : xs.length ≤ ys.length := by rw [hp]; simp; omega
      have hl2 : ys.length ≤ n * size := by rw [← ht]; simp; omega
      rw [hp, ← hA.1, ← ht, List.take_take, Nat.min_eq_left (by omega)]
    · exact .inr ⟨g, cap, cur, hv, hB, (hg.block g (Array.getElem?_eq_some_iff.1 hgk).1 (fun h => e h.symm)).trans hgk, h1, h2, h3, h4⟩
end Go.Proofs.Ytjnaicgmfnhjeaa
