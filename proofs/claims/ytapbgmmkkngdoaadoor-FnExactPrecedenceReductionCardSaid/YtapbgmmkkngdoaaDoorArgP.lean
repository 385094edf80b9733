/- Arguments that are slices of pairs of numbers ([][2]int), opened to lists. -/
import Derived.Test.YtapbgmmkkngdoaaDoorArgJ
import Derived.Test.YtapbgmmkkngdoaaDoorPrC
import Derived.OpenShut
namespace Go.Proofs.YtapbgmmkkngdoaaDoor
open Go.RowKit Go.ChangeShapes Go.WideShapes Go.Deep

section
variable {H : Type} {enc : TypeId × Value → H} {P : Program} {w : World} {base : Nat} {spare : Nat → Bool} {held : Bool}
theorem open_slice_array2 {t e k : TypeId} {fuel : Nat} {cs : List Value} {x : DataW H × List MemPlace} (ht : P.underlying t = some (.slice e)) (he : P.underlying e = some (.array 2 k))
    (hC : P.cellsOf e = 2) (hk : P.cellsOf k = 1) (h : DataW.trod enc P w base spare held fuel t cs = some x) :
    (cs = [.slice none 0 0]) ∨
    ∃ (a : Addr) (len cap m : Nat), cs = [.slice (some a) len cap] ∧ len ≤ cap ∧ cap ≤ maxLen ∧ len ≤ m ∧
      ∀ i, i < m → ∃ n : Nat, ∀ (j : Nat), j < 2 → ∃ (v : Value) (y : DataW H × List MemPlace), w.cell? (a.add (i * 2 + j)) = some v ∧ DataW.trod enc P w base spare held n k [v] = some y := by
  rcases open_slice ht h with ⟨h0, _⟩ | ⟨a, len, cap, m, n, D, Pl, hcs, hb, hl, hm, hmm, hx, hi⟩
  · exact .inl h0
  · refine .inr ⟨a, len, cap, m, hcs, hl, hm, by rw [hmm]; split <;> omega, fun i him => ?_⟩
    obtain ⟨cs', hc, ht'⟩ := hi i him
    rw [hC] at hc
    obtain ⟨ys, n', hn', hy, hlen, hyl, hf⟩ := DataW.trod_array he ht'
    obtain ⟨_, hcl, hat⟩ := World.cells?_some hc
    refine ⟨n', fun j hj => ?_⟩
    have hcell := hat j hj
    have hv : cs'[j]? = some (cs'[j]'(by omega)) := List.getElem?_eq_getElem (by omega)
    have h1 := hf j hj
    rw [hk, Nat.mul_one] at h1
    have hone' : (cs'.drop j).take 1 = [cs'[j]'(by omega)] := by
      rw [List.drop_eq_getElem_cons (by omega)]
      rfl
    rw [hone'] at h1
    have hys : ys[j]? = some (ys[j]'(by omega)) := List.getElem?_eq_getElem (by omega)
    refine ⟨_, _, ?_, h1.trans hys⟩
    rw [← Go.Deep.add_add, hcell, hv]
def wfPr (x : Pr) : Prop := (Lit.int .i64 x.1).wf = true ∧ (Lit.int .i64 x.2).wf = true
/-- A slice of pairs that came in. -/
def IsPairsA (w : World) (A : Option Addr) (len cap : Nat) (xs : List Pr) : Prop := xs.length = len ∧ len ≤ cap ∧ cap ≤ maxLen ∧ Row w A (pc xs) ∧ ∀ x ∈ xs, wfPr x
theorem pc_range (f : Nat → Pr) (n : Nat) (u : Value) (i : Nat) (h : (pc ((List.range n).map f))[i]? = some u) : i < n * 2 ∧ (cellsP (f (i / 2)))[i % 2]? = some u := by
  have hi : i < 2 * n := by
    have := (List.getElem?_eq_some_iff.1 h).1
    rw [pc_len] at this; simpa using this
  have hk : i / 2 < ((List.range n).map f).length := by simp; omega
  have := pc_get ((List.range n).map f) (i / 2) (i % 2) hk (by omega)
  rw [show i / 2 * 2 + i % 2 = i by omega, h] at this
  refine ⟨by omega, ?_⟩
  rw [this]
  simp
theorem open_pairs {t e k : TypeId} {fuel : Nat} {cs : List Value} {x : DataW H × List MemPlace} (ht : P.underlying t = some (.slice e)) (he : P.underlying e = some (.array 2 k))
    (hC : P.cellsOf e = 2) (hk : P.cellsOf k = 1) (i0 : P.underlying k = some (.int .i64))
    (h : DataW.trod enc P w base spare held fuel t cs = some x) : ∃ A len cap js, cs = [.slice A len cap] ∧ IsPairsA w A len cap js := by
  rcases open_slice_array2 ht he hC hk h with rfl | ⟨a, len, cap, m, rfl, hl, hm, hlm, hi⟩
  · exact ⟨none, 0, 0, [], rfl, rfl, Nat.le_refl _, Nat.zero_le _, Row.nil _, by simp⟩
  · have key : ∀ i : Nat, ∃ j : Pr, i < m → (w.cell? (a.add (i * 2 + 0)) = some (.int .i64 j.1) ∧ w.cell? (a.add (i * 2 + 1)) = some (.int .i64 j.2)) ∧ wfPr j := by
      intro i
      by_cases him : i < m
      · obtain ⟨n, hf⟩ := hi i him
        obtain ⟨v0, y0, c0, t0⟩ := hf 0 (by omega)
        obtain ⟨v1, y1, c1, t1⟩ := hf 1 (by omega)
        obtain ⟨n0, e0, _, w0⟩ := DataW.trod_int i0 t0
        obtain ⟨n1, e1, _, w1⟩ := DataW.trod_int i0 t1
        injection e0 with e0 _
        injection e1 with e1 _
        subst e0 e1
        exact ⟨(n0, n1), fun _ => ⟨⟨c0, c1⟩, w0, w1⟩⟩
      · exact ⟨(0, 0), fun h => absurd h him⟩
    obtain ⟨f, hf⟩ := Classical.axiomOfChoice key
    refine ⟨some a, len, cap, (List.range len).map f, rfl, by simp, hl, hm, fun hn => ?_, ?_⟩
    · rw [pc_len] at hn
      have h0 : 0 < len := by simpa using hn
      have hc0 := (hf 0 (by omega)).1.1
      have hb := lt_of_cell hc0
      rw [add_block] at hb
      refine ⟨a, rfl, hb, fun j u hu => ?_⟩
      obtain ⟨hj, hu'⟩ := pc_range f len u j hu
      obtain ⟨⟨c0, c1⟩, _⟩ := hf (j / 2) (by omega)
      have ej : a.add j = a.add (j / 2 * 2 + j % 2) := by rw [show j / 2 * 2 + j % 2 = j by omega]
      rw [ej]
      have h4 : j % 2 = 0 ∨ j % 2 = 1 := by omega
      rcases h4 with h4 | h4 <;> rw [h4] at hu' ⊢ <;> simp [cellsP] at hu' <;> subst hu' <;> assumption
    · intro j hj
      obtain ⟨i, hi, rfl⟩ := List.mem_map.1 hj
      exact (hf i (by have := List.mem_range.1 hi; omega)).2
end
theorem szIntA2S_any (A : Option Addr) (n c : Nat) (left : Int) (w : World) (hn : n ≤ maxLen) (h0 : 0 ≤ left) (h1 : left ≤ 1048576) :
    Calls Tryd.prog 11 #[.slice A n c, .int .i64 left] w fun e w' => ((e = .returned (.int .i64 (left - n)) ∧ (n : Int) ≤ left) ∨ (e = .returned (.int .i64 (-1)) ∧ left < n)) ∧ w = w' := by
  unfold maxLen at hn
  by_cases h : (n : Int) ≤ left
  · go_enter Tryd.func11, Tryd.ntmps11
    go_wp2
    go_ret
    first | exact ⟨.inl ⟨rfl, h⟩, rfl⟩ | exact ⟨.inl rfl, rfl⟩
  · go_enter Tryd.func11, Tryd.ntmps11
    go_wp2
    go_ret
    first | exact ⟨.inr ⟨rfl, by omega⟩, rfl⟩ | exact ⟨.inr rfl, rfl⟩
theorem argP_kinds : Tryd.prog.underlying 22 = some (.slice 56) ∧ Tryd.prog.underlying 56 = some (.array 2 3) ∧ Tryd.prog.cellsOf 56 = 2 ∧ Tryd.prog.cellsOf 3 = 1 :=
  ⟨Tryd.underlying22, Tryd.underlying56, by kernel_rfl, by kernel_rfl⟩
end Go.Proofs.YtapbgmmkkngdoaaDoor
