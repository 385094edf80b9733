/- Arguments that are slices of jobs, opened to lists. -/
import Derived.Test.YteidhjmnononaaaJobs
import Derived.Deep.Slices
import Derived.Deep.Fields
import Derived.ChangeSame
namespace Go.Proofs.Yteidhjmnononaaa
open Go.RowKit Go.ChangeShapes Go.WideShapes Go.Deep

section
variable {H : Type} {enc : TypeId × Value → H} {P : Program} {w : World} {base : Nat} {spare : Nat → Bool} {held : Bool}
theorem open_slice_fields {t e : TypeId} {fs : Array Field} {fuel : Nat} {cs : List Value} {x : DataW H × List MemPlace} (ht : P.underlying t = some (.slice e)) (he : P.underlying e = some (.struct fs))
    (hone : oneCellFields P fs = true) (hC : P.cellsOf e = fs.size) (h : DataW.trod enc P w base spare held fuel t cs = some x) :
    (cs = [.slice none 0 0]) ∨
    ∃ (a : Addr) (len cap m : Nat), cs = [.slice (some a) len cap] ∧ len ≤ cap ∧ cap ≤ maxLen ∧ len ≤ m ∧
      ∀ i, i < m → ∃ n : Nat, ∀ (j : Nat) (f : Field), fs[j]? = some f → ∃ (v : Value) (y : DataW H × List MemPlace), w.cell? (a.add (i * fs.size + j)) = some v ∧ DataW.trod enc P w base spare held n f.type [v] = some y := by
  rcases open_slice ht h with ⟨h0, _⟩ | ⟨a, len, cap, m, n, D, Pl, hcs, hb, hl, hm, hmm, hx, hi⟩
  · exact .inl h0
  · refine .inr ⟨a, len, cap, m, hcs, hl, hm, by rw [hmm]; split <;> omega, fun i him => ?_⟩
    obtain ⟨cs', hc, ht'⟩ := hi i him
    rw [hC] at hc
    obtain ⟨ys, n', hn', hy, hlen, hyl, hf⟩ := DataW.trod_struct he ht'
    obtain ⟨_, hcl, hat⟩ := World.cells?_some hc
    refine ⟨n', fun j f hj => ?_⟩
    obtain ⟨ho, hk⟩ := hone_of hone j f hj
    have hjl : j < fs.size := (Array.getElem?_eq_some_iff.1 hj).1
    have hcell := hat j hjl
    have hv : cs'[j]? = some (cs'[j]'(by omega)) := List.getElem?_eq_getElem (by omega)
    have h1 := hf j f hj
    rw [ho, hk] at h1
    have hone' : (cs'.drop j).take 1 = [cs'[j]'(by omega)] := by
      rw [List.drop_eq_getElem_cons (by omega)]
      rfl
    rw [hone'] at h1
    have hys : ys[j]? = some (ys[j]'(by omega)) := List.getElem?_eq_getElem (by omega)
    refine ⟨_, _, ?_, h1.trans hys⟩
    rw [← Go.Deep.add_add, hcell, hv]

def wfJ (j : J) : Prop := (Lit.int .i64 j.t).wf = true ∧ (Lit.int .i64 j.w).wf = true ∧ (Lit.int .i64 j.r).wf = true ∧ (Lit.int .i64 j.d).wf = true
/-- A slice of jobs that came in. -/
def IsJobsA (w : World) (A : Option Addr) (len cap : Nat) (js : List J) : Prop := js.length = len ∧ len ≤ cap ∧ cap ≤ maxLen ∧ Row w A (jc js) ∧ ∀ j ∈ js, wfJ j
theorem jc_range (f : Nat → J) (n : Nat) (u : Value) (i : Nat) (h : (jc ((List.range n).map f))[i]? = some u) : i < n * 4 ∧ (cellsJ (f (i / 4)))[i % 4]? = some u := by
  have hi : i < 4 * n := by
    have := (List.getElem?_eq_some_iff.1 h).1
    rw [jc_len] at this; simpa using this
  have hk : i / 4 < ((List.range n).map f).length := by simp; omega
  have := jc_get ((List.range n).map f) (i / 4) (i % 4) hk (by omega)
  rw [show i / 4 * 4 + i % 4 = i by omega, h] at this
  refine ⟨by omega, ?_⟩
  rw [this]
  simp
theorem open_jobs {t e : TypeId} {f0 f1 f2 f3 : Field} {fuel : Nat} {cs : List Value} {x : DataW H × List MemPlace} (ht : P.underlying t = some (.slice e)) (he : P.underlying e = some (.struct #[f0, f1, f2, f3]))
    (hone : oneCellFields P #[f0, f1, f2, f3] = true) (hC : P.cellsOf e = 4) (i0 : P.underlying f0.type = some (.int .i64)) (i1 : P.underlying f1.type = some (.int .i64)) (i2 : P.underlying f2.type = some (.int .i64)) (i3 : P.underlying f3.type = some (.int .i64))
    (h : DataW.trod enc P w base spare held fuel t cs = some x) : ∃ A len cap js, cs = [.slice A len cap] ∧ IsJobsA w A len cap js := by
  rcases open_slice_fields ht he hone hC h with rfl | ⟨a, len, cap, m, rfl, hl, hm, hlm, hi⟩
  · exact ⟨none, 0, 0, [], rfl, rfl, Nat.le_refl _, Nat.zero_le _, Row.nil _, by simp⟩
  · have key : ∀ i : Nat, ∃ j : J, i < m → (w.cell? (a.add (i * 4 + 0)) = some (.int .i64 j.t) ∧ w.cell? (a.add (i * 4 + 1)) = some (.int .i64 j.w) ∧ w.cell? (a.add (i * 4 + 2)) = some (.int .i64 j.r) ∧ w.cell? (a.add (i * 4 + 3)) = some (.int .i64 j.d)) ∧ wfJ j := by
      intro i
      by_cases him : i < m
      · obtain ⟨n, hf⟩ := hi i him
        obtain ⟨v0, y0, c0, t0⟩ := hf 0 f0 rfl
        obtain ⟨v1, y1, c1, t1⟩ := hf 1 f1 rfl
        obtain ⟨v2, y2, c2, t2⟩ := hf 2 f2 rfl
        obtain ⟨v3, y3, c3, t3⟩ := hf 3 f3 rfl
        obtain ⟨n0, e0, _, w0⟩ := DataW.trod_int i0 t0
        obtain ⟨n1, e1, _, w1⟩ := DataW.trod_int i1 t1
        obtain ⟨n2, e2, _, w2⟩ := DataW.trod_int i2 t2
        obtain ⟨n3, e3, _, w3⟩ := DataW.trod_int i3 t3
        injection e0 with e0 _
        injection e1 with e1 _
        injection e2 with e2 _
        injection e3 with e3 _
        subst e0 e1 e2 e3
        exact ⟨⟨n0, n1, n2, n3⟩, fun _ => ⟨⟨c0, c1, c2, c3⟩, w0, w1, w2, w3⟩⟩
      · exact ⟨j0, fun h => absurd h him⟩
    obtain ⟨f, hf⟩ := Classical.axiomOfChoice key
    refine ⟨some a, len, cap, (List.range len).map f, rfl, by simp, hl, hm, fun hn => ?_, ?_⟩
    · rw [jc_len] at hn
      have h0 : 0 < len := by simpa using hn
      have hc0 := (hf 0 (by omega)).1.1
      have hb := lt_of_cell hc0
      rw [add_block] at hb
      refine ⟨a, rfl, hb, fun j u hu => ?_⟩
      obtain ⟨hj, hu'⟩ := jc_range f len u j hu
      obtain ⟨⟨c0, c1, c2, c3⟩, _⟩ := hf (j / 4) (by omega)
      have ej : a.add j = a.add (j / 4 * 4 + j % 4) := by rw [show j / 4 * 4 + j % 4 = j by omega]
      rw [ej]
      have h4 : j % 4 = 0 ∨ j % 4 = 1 ∨ j % 4 = 2 ∨ j % 4 = 3 := by omega
      rcases h4 with h4 | h4 | h4 | h4 <;> rw [h4] at hu' ⊢ <;> simp [cellsJ] at hu' <;> subst hu' <;> assumption
    · intro j hj
      obtain ⟨i, hi, rfl⟩ := List.mem_map.1 hj
      exact (hf i (by have := List.mem_range.1 hi; omega)).2
end
end Go.Proofs.Yteidhjmnononaaa
