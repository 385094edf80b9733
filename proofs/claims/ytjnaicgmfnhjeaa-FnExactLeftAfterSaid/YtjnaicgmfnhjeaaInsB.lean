/- Cells written one after the other; a list without one of its places. -/
import Derived.Test.YtjnaicgmfnhjeaaEndsO
namespace Go.Proofs.Ytjnaicgmfnhjeaa
open Go.RowKit
/-- Cells written one after the other. -/
def setsA (cs : Array Value) : Nat → List Value → Array Value
  | _, [] => cs
  | o, v :: r => setsA (cs.setIfInBounds o v) (o + 1) r
theorem setsA_size : ∀ (vs : List Value) (o : Nat) (cs : Array Value), (setsA cs o vs).size = cs.size
  | [], _, _ => rfl
  | v :: r, o, cs => by unfold setsA; rw [setsA_size r]; simp
theorem BlockIs.sets {g : Nat} {t : TypeId} : ∀ (vs : List Value) (o : Nat) {w : World} {cs : Array Value}, BlockIs w g t cs → BlockIs (w.setCells g o vs) g t (setsA cs o vs)
  | [], _, _, _, h => h
  | v :: r, o, _, _, h => BlockIs.sets r (o + 1) (h.set o v)
theorem Below.sets {B g : Nat} (hg : B ≤ g) : ∀ (vs : List Value) (o : Nat) {a w : World}, Below B a w → Below B a (w.setCells g o vs)
  | [], _, _, _, h => h
  | v :: r, o, _, _, h => Below.sets hg r (o + 1) (h.setCell (p := ⟨g, o, none⟩) hg v)
theorem setsA_at : ∀ (vs : List Value) (o : Nat) (cs : Array Value) (j : Nat), o + vs.length ≤ cs.size → (setsA cs o vs)[j]? = if o ≤ j ∧ j < o + vs.length then vs[j - o]? else cs[j]?
  | [], o, cs, j, _ => by rw [if_neg (by simp)]; rfl
  | v :: r, o, cs, j, h => by
    simp only [List.length_cons] at h ⊢
    unfold setsA
    rw [setsA_at r (o + 1) _ j (by simp; omega)]
    by_cases h1 : o + 1 ≤ j ∧ j < o + 1 + r.length
    · rw [if_pos h1, if_pos (by omega), show j - o = (j - (o + 1)) + 1 by omega]; rfl
    · rw [if_neg h1]
      by_cases h2 : j = o
      · subst h2; rw [if_pos (by omega), Array.getElem?_setIfInBounds, if_pos rfl, if_pos (by omega)]; simp
      · rw [if_neg (by omega), Array.getElem?_setIfInBounds, if_neg (by omega)]
theorem ins_at {α : Type} (R : List α) (x : α) (t j : Nat) (h : t ≤ R.length) : (R.take t ++ x :: R.drop t)[j]? = if j < t then R[j]? else if j = t then some x else R[j - 1]? := by
  have hl : (R.take t).length = t := by simp; omega
  by_cases h1 : j < t
  · rw [if_pos h1, List.getElem?_append_left (by omega), List.getElem?_take, if_pos h1]
  · rw [if_neg h1, List.getElem?_append_right (by omega), hl]
    by_cases h2 : j = t
    · subst h2; simp
    · rw [if_neg h2, show j - t = (j - t - 1) + 1 by omega, List.getElem?_cons_succ, List.getElem?_drop]
      congr 1; omega
/-- What is in the cells after the shift and the write. -/
theorem shift_take {cur : Array Value} {R : List Value} {x : Value} {t : Nat} (hs : R.length < cur.size) (hR : ∀ j, j < R.length → cur[j]? = R[j]?) (ht : t < R.length) :
    (setsA (setsA cur (t + 1) (R.drop t)) t [x]).toList.take (R.length + 1) = R.take t ++ x :: R.drop t := by
  apply List.ext_getElem?
  intro j
  rw [ins_at R x t j (by omega), List.getElem?_take]
  by_cases hj : j < R.length + 1
  · rw [if_pos hj, Array.getElem?_toList, setsA_at _ _ _ _ (by rw [setsA_size]; simp; omega), setsA_at _ _ _ _ (by simp; omega)]
    by_cases h1 : j < t
    · rw [if_pos h1, if_neg (by omega), if_neg (by omega), hR j (by omega)]
    · rw [if_neg h1]
      by_cases h2 : j = t
      · subst h2; simp
      · rw [if_neg h2, if_neg (by simp; omega), if_pos (by simp; omega), List.getElem?_drop]
        congr 1; omega
  · rw [if_neg hj, if_neg (by omega), if_neg (by omega), List.getElem?_eq_none (by omega)]
theorem end_take {cur : Array Value} {R : List Value} {x : Value} (hs : R.length < cur.size) (hR : ∀ j, j < R.length → cur[j]? = R[j]?) :
    (setsA cur R.length [x]).toList.take (R.length + 1) = R.take R.length ++ x :: R.drop R.length := by
  apply List.ext_getElem?
  intro j
  rw [ins_at R x R.length j (by omega), List.getElem?_take]
  by_cases hj : j < R.length + 1
  · rw [if_pos hj, Array.getElem?_toList, setsA_at _ _ _ _ (by simp; omega)]
    by_cases h1 : j < R.length
    · rw [if_pos h1, if_neg (by omega), hR j h1]
    · have h2 : j = R.length := by omega
      subst h2; simp
  · rw [if_neg hj, if_neg (by omega), if_neg (by omega), List.getElem?_eq_none (by omega)]
/-- One place left out. -/
def restI (o : List Int) (f : Nat) : List Int := o.take f ++ o.drop (f + 1)
theorem restI_len {o : List Int} {f : Nat} (h : f < o.length) : (restI o f).length + 1 = o.length := by unfold restI; simp; omega
end Go.Proofs.Ytjnaicgmfnhjeaa
