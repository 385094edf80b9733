/- Slices of pairs of ints: their cells. -/
import Derived.Test.YteidhjmnononaaaSegH
namespace Go.Proofs.Yteidhjmnononaaa
open Go.RowKit
abbrev Pr := Int × Int
def cellsP (x : Pr) : List Value := [.int .i64 x.1, .int .i64 x.2]
def pc (xs : List Pr) : List Value := xs.flatMap cellsP
theorem pc_len : ∀ xs : List Pr, (pc xs).length = 2 * xs.length
  | [] => rfl
  | x :: xs => by
    show (cellsP x ++ pc xs).length = _
    rw [List.length_append, pc_len xs]; simp [cellsP]; omega
theorem pc_get : ∀ (xs : List Pr) (k i : Nat) (hk : k < xs.length), i < 2 → (pc xs)[k * 2 + i]? = (cellsP xs[k])[i]?
  | [], _, _, h, _ => by cases h
  | x :: xs, 0, i, _, hi => by
    show (cellsP x ++ pc xs)[0 * 2 + i]? = _
    rw [List.getElem?_append_left (by simp [cellsP]; omega)]
    simp
  | x :: xs, k + 1, i, h, hi => by
    show (cellsP x ++ pc xs)[(k + 1) * 2 + i]? = _
    rw [List.getElem?_append_right (by simp [cellsP]; omega)]
    rw [show (k + 1) * 2 + i - (cellsP x).length = k * 2 + i by simp [cellsP]; omega]
    exact pc_get xs k i (by simpa using h) hi
theorem pc_snoc (xs : List Pr) (x : Pr) : pc (xs ++ [x]) = pc xs ++ cellsP x := by unfold pc; simp
theorem Row.pair {w : World} {A : Option Addr} {xs : List Pr} (h : Row w A (pc xs)) {k : Nat} (hk : k < xs.length) : ∃ ad, A = some ad ∧ ad.block < w.heap.size ∧
    w.cell? (ad.add (k * 2)) = some (.int .i64 xs[k].1) ∧ w.cell? ⟨(ad.add (k * 2)).block, (ad.add (k * 2)).off + 1, none⟩ = some (.int .i64 xs[k].2) := by
  obtain ⟨ad, hA, hb, hc⟩ := h (by rw [pc_len]; omega)
  refine ⟨ad, hA, hb, ?_, ?_⟩
  · exact hc _ _ (pc_get xs k 0 hk (by omega))
  · exact (congrArg w.cell? (add_add ad (k * 2) 1)).trans (hc _ _ (pc_get xs k 1 hk (by omega)))
end Go.Proofs.Yteidhjmnononaaa
