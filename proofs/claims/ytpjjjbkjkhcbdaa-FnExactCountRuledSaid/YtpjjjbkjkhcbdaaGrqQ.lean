/- Plain words for the groups of tied jobs: one group taken off the ruled order. -/
import Derived.Test.YtpjjjbkjkhcbdaaGrpP
namespace Go.Proofs.Ytpjjjbkjkhcbdaa
theorem takeWhile_len {p : Nat → Bool} : ∀ {ys : List Nat} {m : Nat}, m ≤ ys.length → (∀ j, j < m → p (ys.getD j 0) = true) → (m = ys.length ∨ p (ys.getD m 0) = false) → ys.takeWhile p = ys.take m ∧ ys.dropWhile p = ys.drop m
  | [], m, hm, _, _ => by have : m = 0 := by simpa using hm
                          subst this; exact ⟨rfl, rfl⟩
  | y :: ys, 0, _, _, he => by
    have hy : p y = false := by
      rcases he with h | h
      · cases h
      · simpa using h
    simp [hy]
  | y :: ys, m + 1, hm, hall, he => by
    have hy : p y = true := by simpa using hall 0 (by omega)
    have ih := takeWhile_len (p := p) (ys := ys) (m := m) (by simpa using hm) (fun j hj => by simpa using hall (j + 1) (by omega)) (by
      rcases he with h | h
      · left; simpa using h
      · right; simpa using h)
    rw [List.takeWhile_cons, List.dropWhile_cons, hy]
    simp only [if_true, List.take_succ_cons, List.drop_succ_cons]
    exact ⟨congrArg _ ih.1, ih.2⟩
theorem grp_take (ob : Int) (js : List J) {L : List Nat} {k z f : Nat} (hk : k < L.length) (hz1 : 1 ≤ z) (hz : k + z ≤ L.length)
    (hall : ∀ j, 1 ≤ j → j < z → tieB ob js (L.getD k 0) (L.getD (k + j) 0) = true) (hend : k + z = L.length ∨ tieB ob js (L.getD k 0) (L.getD (k + z) 0) = false) :
    grp ob js (f + 1) (L.drop k) = ((L.drop k).take z) :: grp ob js f (L.drop (k + z)) := by
  have hx : L.getD k 0 = L[k] := by rw [List.getD_eq_getElem?_getD, List.getElem?_eq_getElem hk, Option.getD_some]
  rw [hx] at hall hend
  have hg : ∀ j, (L.drop (k + 1)).getD j 0 = L.getD (k + (j + 1)) 0 := fun j => by
    rw [List.getD_eq_getElem?_getD, List.getD_eq_getElem?_getD, List.getElem?_drop]
    congr 2; omega
  have h := takeWhile_len (p := tieB ob js L[k]) (ys := L.drop (k + 1)) (m := z - 1) (by simp; omega) (fun j hj => by rw [hg]; exact hall (j + 1) (by omega) (by omega)) (by
    rcases hend with h | h
    · left; simp; omega
    · right; rw [hg, show k + (z - 1 + 1) = k + z by omega]; exact h)
  rw [List.drop_eq_getElem_cons hk]
  show (L[k] :: (L.drop (k + 1)).takeWhile _) :: grp ob js f ((L.drop (k + 1)).dropWhile _) = _
  rw [h.1, h.2, List.drop_drop]
  obtain ⟨y, rfl⟩ : ∃ y, z = y + 1 := ⟨z - 1, by omega⟩
  rw [show k + 1 + (y + 1 - 1) = k + (y + 1) by omega, List.take_succ_cons, Nat.add_sub_cancel]
end Go.Proofs.Ytpjjjbkjkhcbdaa
