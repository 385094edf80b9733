/- Arguments that are slices of spans, opened to lists. -/
import Derived.Test.YtpjjjbkjkhcbdaaArgJ
import Derived.Test.YtpjjjbkjkhcbdaaSpn
namespace Go.Proofs.Ytpjjjbkjkhcbdaa
open Go.RowKit Go.ChangeShapes Go.WideShapes Go.Deep

section
variable {H : Type} {enc : TypeId × Value → H} {P : Program} {w : World} {base : Nat} {spare : Nat → Bool} {held : Bool}
def wfSp (j : Sp) : Prop := (Lit.int .i64 j.j).wf = true ∧ (Lit.int .i64 j.f).wf = true ∧ (Lit.int .i64 j.t).wf = true
/-- A slice of spans that came in. -/
def IsSpansA (w : World) (A : Option Addr) (len cap : Nat) (js : List Sp) : Prop := js.length = len ∧ len ≤ cap ∧ cap ≤ maxLen ∧ Row w A (spc js) ∧ ∀ j ∈ js, wfSp j
theorem spc_range (f : Nat → Sp) (n : Nat) (u : Value) (i : Nat) (h : (spc ((List.range n).map f))[i]? = some u) : i < n * 3 ∧ (cellsSp (f (i / 3)))[i % 3]? = some u := by
  have hi : i < 3 * n := by
    have := (List.getElem?_eq_some_iff.1 h).1
    rw [spc_len] at this; simpa using this
  have hk : i / 3 < ((List.range n).map f).length := by simp; omega
  have := spc_get ((List.range n).map f) (i / 3) (i % 3) hk (by omega)
  rw [show i / 3 * 3 + i % 3 = i by omega, h] at this
  refine ⟨by omega, ?_⟩
  rw [this]
  simp
theorem open_spans {t e : TypeId} {f0 f1 f2 : Field} {fuel : Nat} {cs : List Value} {x : DataW H × List MemPlace} (ht : P.underlying t = some (.slice e)) (he : P.underlying e = some (.struct #[f0, f1, f2]))
    (hone : oneCellFields P #[f0, f1, f2] = true) (hC : P.cellsOf e = 3) (i0 : P.underlying f0.type = some (.int .i64)) (i1 : P.underlying f1.type = some (.int .i64)) (i2 : P.underlying f2.type = some (.int .i64))
    (h : DataW.trod enc P w base spare held fuel t cs = some x) : ∃ A len cap js, cs = [.slice A len cap] ∧ IsSpansA w A len cap js := by
  rcases open_slice_fields ht he hone hC h with rfl | ⟨a, len, cap, m, rfl, hl, hm, hlm, hi⟩
  · exact ⟨none, 0, 0, [], rfl, rfl, Nat.le_refl _, Nat.zero_le _, Row.nil _, by simp⟩
  · have key : ∀ i : Nat, ∃ j : Sp, i < m → (w.cell? (a.add (i * 3 + 0)) = some (.int .i64 j.j) ∧ w.cell? (a.add (i * 3 + 1)) = some (.int .i64 j.f) ∧ w.cell? (a.add (i * 3 + 2)) = some (.int .i64 j.t)) ∧ wfSp j := by
      intro i
      by_cases him : i < m
      · obtain ⟨n, hf⟩ := hi i him
        obtain ⟨v0, y0, c0, t0⟩ := hf 0 f0 rfl
        obtain ⟨v1, y1, c1, t1⟩ := hf 1 f1 rfl
        obtain ⟨v2, y2, c2, t2⟩ := hf 2 f2 rfl
        obtain ⟨n0, e0, _, w0⟩ := DataW.trod_int i0 t0
        obtain ⟨n1, e1, _, w1⟩ := DataW.trod_int i1 t1
        obtain ⟨n2, e2, _, w2⟩ := DataW.trod_int i2 t2
        injection e0 with e0 _
        injection e1 with e1 _
        injection e2 with e2 _
        subst e0 e1 e2
        exact ⟨⟨n0, n1, n2⟩, fun _ => ⟨⟨c0, c1, c2⟩, w0, w1, w2⟩⟩
      · exact ⟨sp0, fun h => absurd h him⟩
    obtain ⟨f, hf⟩ := Classical.axiomOfChoice key
    refine ⟨some a, len, cap, (List.range len).map f, rfl, by simp, hl, hm, fun hn => ?_, ?_⟩
    · rw [spc_len] at hn
      have h0 : 0 < len := by simpa using hn
      have hc0 := (hf 0 (by omega)).1.1
      have hb := lt_of_cell hc0
      rw [add_block] at hb
      refine ⟨a, rfl, hb, fun j u hu => ?_⟩
      obtain ⟨hj, hu'⟩ := spc_range f len u j hu
      obtain ⟨⟨c0, c1, c2⟩, _⟩ := hf (j / 3) (by omega)
      have ej : a.add j = a.add (j / 3 * 3 + j % 3) := by rw [show j / 3 * 3 + j % 3 = j by omega]
      rw [ej]
      have h4 : j % 3 = 0 ∨ j % 3 = 1 ∨ j % 3 = 2 := by omega
      rcases h4 with h4 | h4 | h4 <;> rw [h4] at hu' ⊢ <;> simp [cellsSp] at hu' <;> subst hu' <;> assumption
    · intro j hj
      obtain ⟨i, hi, rfl⟩ := List.mem_map.1 hj
      exact (hf i (by have := List.mem_range.1 hi; omega)).2
end
theorem szSpanS_any (A : Option Addr) (n c : Nat) (left : Int) (w : World) (hn : n ≤ maxLen) (h0 : 0 ≤ left) (h1 : left ≤ 1048576) :
    Calls Try.prog 18 #[.slice A n c, .int .i64 left] w fun e w' => ((e = .returned (.int .i64 (left - n)) ∧ (n : Int) ≤ left) ∨ (e = .returned (.int .i64 (-1)) ∧ left < n)) ∧ w = w' := by
  unfold maxLen at hn
  by_cases h : (n : Int) ≤ left
  · go_enter Try.func18, Try.ntmps18
    go_wp2
    go_ret
    first | exact ⟨.inl ⟨rfl, h⟩, rfl⟩ | exact ⟨.inl rfl, rfl⟩
  · go_enter Try.func18, Try.ntmps18
    go_wp2
    go_ret
    first | exact ⟨.inr ⟨rfl, by omega⟩, rfl⟩ | exact ⟨.inr rfl, rfl⟩
end Go.Proofs.Ytpjjjbkjkhcbdaa
