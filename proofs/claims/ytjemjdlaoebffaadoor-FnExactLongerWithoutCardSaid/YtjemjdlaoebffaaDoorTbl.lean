/- Tables of bools: slices of slices of one's own. -/
import Derived.Test.YtjemjdlaoebffaaDoorKb2
import Derived.Test.YtjemjdlaoebffaaDoorSlsR
import Derived.Test.YtjemjdlaoebffaaDoorKb3
import Derived.Test.YtjemjdlaoebffaaDoorPrecP
import Derived.Test.YtjemjdlaoebffaaDoorPrC
import Derived.Test.YtjemjdlaoebffaaDoorInts
import Derived.StillTailTactics
namespace Go.Proofs.YtjemjdlaoebffaaDoor
open Go.RowKit
def rowB (n : Nat) (f : Nat → Bool) : Array Value := ((List.range n).map fun j => Value.bool (f j)).toArray
theorem rowB_size (n : Nat) (f : Nat → Bool) : (rowB n f).size = n := by unfold rowB; simp
theorem rowB_at {n : Nat} {f : Nat → Bool} {j : Nat} (h : j < n) : (rowB n f)[j]? = some (.bool (f j)) := by unfold rowB; simp [h]
theorem rowB_set (n : Nat) (f : Nat → Bool) (j : Nat) (b : Bool) : (rowB n f).setIfInBounds j (.bool b) = rowB n (fun i => if i = j then b else f i) := by
  apply Array.ext_getElem?
  intro i
  rw [Array.getElem?_setIfInBounds]
  by_cases h : i < n
  · rw [rowB_at h, rowB_at h]
    by_cases e : j = i
    · subst e; simp [rowB_size, h]
    · have e' : ¬ i = j := fun x => e x.symm
      rw [if_neg e, if_neg e']
  · have h1 : (rowB n f)[i]? = none := Array.getElem?_eq_none (by rw [rowB_size]; omega)
    have h2 : (rowB n fun i => if i = j then b else f i)[i]? = none := Array.getElem?_eq_none (by rw [rowB_size]; omega)
    rw [h1, h2, rowB_size]
    by_cases e : j = i
    · subst e; rw [if_pos rfl, if_neg h]
    · rw [if_neg e]
theorem rowB_made (n : Nat) : madeCells #[.bool false] n = rowB n (fun _ => false) := by
  apply Array.ext
  · rw [size_madeCells, rowB_size]
  · intro i h1 h2
    simp [madeCells, rowB, Nat.mod_one]
theorem infoBo : (Tryd.prog.info? 4).map (fun i => (i.zero, i.size, i.bytes)) = some (some (.bool false), 1, 1) := by kernel_rfl
theorem infoSB : (Tryd.prog.info? 99).map (fun i => (i.zero, i.size, i.bytes)) = some (some (.slice none 0 0), 1, 24) := by kernel_rfl
def refsB (n : Nat) (gs : List Nat) : List Value := gs.map fun g => .slice (some ⟨g, 0, none⟩) n n
/-- A table of bools of one's own: m rows of n. -/
def TabR (B n : Nat) (T : Nat → Nat → Bool) (gs : List Nat) (v : Value) (w : World) : Prop := w.ownsRow B 99 1 v gs.length (refsB n gs) ∧
  (∀ i (h : i < gs.length), BlockIs w gs[i] 4 (rowB n (T i)) ∧ B ≤ gs[i]) ∧ gs.Nodup
section
variable {B n : Nat} {T : Nat → Nat → Bool} {gs : List Nat} {v : Value} {w w' : World}
theorem TabR.below (h : TabR B n T gs v w) (hb : Below w.heap.size w w') : TabR B n T gs v w' :=
  ⟨own_blw h.1 hb, fun i hi => ⟨(h.2.1 i hi).1.below hb, (h.2.1 i hi).2⟩, h.2.2⟩
theorem TabR.drew (h : TabR B n T gs v w) : TabR B n T gs v w.drew := h
theorem TabR.congr {U : Nat → Nat → Bool} (h : TabR B n T gs v w) (he : ∀ i j, i < gs.length → j < n → T i j = U i j) : TabR B n U gs v w :=
  ⟨h.1, fun i hi => ⟨by
    have := (h.2.1 i hi).1
    have e : rowB n (T i) = rowB n (U i) := by
      apply Array.ext
      · rw [rowB_size, rowB_size]
      · intro j h1 h2
        rw [rowB_size] at h1
        have a := rowB_at (f := T i) h1
        have b := rowB_at (f := U i) h1
        rw [Array.getElem?_eq_getElem (by rw [rowB_size]; exact h1)] at a b
        injection a with a
        injection b with b
        rw [a, b, he i j hi h1]
    rw [← e]; exact this, (h.2.1 i hi).2⟩, h.2.2⟩
/-- Where a row lies, and what is in it. -/
theorem TabR.at_ (h : TabR B n T gs v w) {i : Nat} (hi : i < gs.length) : ∃ g c q, v = .slice (some ⟨g, 0, none⟩) gs.length c ∧ gs[i] = q ∧ w.cell? ⟨g, i, none⟩ = some (.slice (some ⟨q, 0, none⟩) n n) ∧ BlockIs w q 4 (rowB n (T i)) ∧ B ≤ q ∧ g ≠ q ∧ ∀ j, j < n → w.cell? ⟨q, j, none⟩ = some (.bool (T i j)) := by
  obtain ⟨A, c, rfl, _, hr⟩ := own_slice h.1
  obtain ⟨g, cur, rfl, _, hB, _⟩ := own_block h.1 (by omega)
  have hb := (h.2.1 i hi).1
  refine ⟨g, c, gs[i], rfl, rfl, ?_, hb, (h.2.1 i hi).2, type_ne hB hb (by decide), fun j hj => (hb.cell j).trans (rowB_at hj)⟩
  have := hr.cell0 (k := i) (by unfold refsB; simpa using hi)
  rw [this]
  simp [refsB]
/-- One entry is set. -/
theorem TabR.set (h : TabR B n T gs v w) {i j : Nat} (hi : i < gs.length) (b : Bool) : TabR B n (fun x y => if x = i ∧ y = j then b else T x y) gs v (w.setCell ⟨gs[i], j, none⟩ (.bool b)) := by
  have hbi := (h.2.1 i hi).1
  refine ⟨own_to h.1 fun q hq _ _ => ?_, fun x hx => ⟨?_, (h.2.1 x hx).2⟩, h.2.2⟩
  · obtain ⟨_, _, c1, t1⟩ := own_type h.1 hq
    exact Below.heap_setCell _ _ _ _ (type_ne t1 hbi (by decide))
  · by_cases e : x = i
    · subst e
      have := hbi.set j (.bool b)
      rw [rowB_set] at this
      simpa using this
    · have hne : gs[x] ≠ gs[i] := fun h' => e ((List.getElem_inj h.2.2 (h₀ := hx) (h₁ := hi)).1 h')
      have := (h.2.1 x hx).1.away hne j (.bool b)
      simpa [e] using this
/-- One more row behind them, freshly made. -/
theorem TabR.push {w0 : World} (h : TabR w0.heap.size n (fun _ _ => false) gs v w) (hb : Below w0.heap.size w0 w) (hl : gs.length ≤ 1000) :
    ∃ v' w3, (Builtin.append_ #[97, 97] 97 #[v, .slice (some ⟨w.heap.size + 1, 0, none⟩) 1 1]).run Tryd.prog ((w.alloc (.cells (rowB n fun _ => false) 4)).alloc (.cells #[.slice (some ⟨w.heap.size, 0, none⟩) n n] 99)) = .ok v' w3 ∧
      TabR w0.heap.size n (fun _ _ => false) (gs ++ [w.heap.size]) v' w3 ∧ Below w0.heap.size w0 w3 := by
  obtain ⟨i1, hj, hy0, hy1, hy2⟩ := info_parts infoSB
  have hsz := hb.size
  have hb1 := hb.alloc hsz (.cells (rowB n fun _ => false) 4)
  have hb2 := hb1.alloc hb1.size (.cells #[.slice (some ⟨w.heap.size, 0, none⟩) n n] 99)
  have hbw : Below w.heap.size w ((w.alloc (.cells (rowB n fun _ => false) 4)).alloc (.cells #[.slice (some ⟨w.heap.size, 0, none⟩) n n] 99)) := ((Below.refl _ w).alloc (Nat.le_refl _) _).alloc (by simp) _
  have h2 := h.below hbw
  have hs1 : (w.alloc (.cells (rowB n fun _ => false) 4)).heap.size = w.heap.size + 1 := by simp
  have hsrc := row_srcS (Row.new (w.alloc (.cells (rowB n fun _ => false) 4)) 99 #[.slice (some ⟨w.heap.size, 0, none⟩) n n])
  rw [hs1] at hsrc
  have hnw := (BlockIs.new w 4 (rowB n fun _ => false)).below ((Below.refl _ _).alloc (Nat.le_refl _) (.cells #[.slice (some ⟨w.heap.size, 0, none⟩) n n] 99))
  obtain ⟨v', w3, hrun, ho3, hgr, _⟩ := append_at (P := Tryd.prog) ((w.alloc (.cells (rowB n fun _ => false) 4)).alloc (.cells #[.slice (some ⟨w.heap.size, 0, none⟩) n n] 99)) w0.heap.size 97 97 99 i1 (.slice none 0 0) 1 24 Tryd.underlying97 hj hy0 hy1 hy2 rfl (by decide) _ _ _ h2.1 ⟨w.heap.size + 1, 0, none⟩ 1 1 [.slice (some ⟨w.heap.size, 0, none⟩) n n] rfl hsrc (by intro u hu; simp at hu; subst hu; rfl) (by omega) (by unfold maxLen; omega) (by omega) hb2.size
  have hkeep : ∀ q cs, BlockIs ((w.alloc (.cells (rowB n fun _ => false) 4)).alloc (.cells #[.slice (some ⟨w.heap.size, 0, none⟩) n n] 99)) q 4 cs → BlockIs w3 q 4 cs := fun q cs hB => by
    refine (hgr.block q hB.lt fun e => ?_).trans hB
    obtain ⟨_, _, c1, t1⟩ := own_type h2.1 e.symm
    exact type_ne hB t1 (by decide) rfl
  refine ⟨v', w3, hrun, ⟨?_, fun i hi => ?_, ?_⟩, hb2.grown hgr hb2.size (fun j hj => (h2.1.lt j hj).1)⟩
  · unfold refsB at ho3 ⊢
    simpa using ho3
  · by_cases e : i < gs.length
    · rw [List.getElem_append_left e]
      exact ⟨hkeep _ _ (h2.2.1 i e).1, (h2.2.1 i e).2⟩
    · have e' : i = gs.length := by simp at hi; omega
      subst e'
      rw [List.getElem_append_right (Nat.le_refl _)]
      simp only [Nat.sub_self, List.getElem_cons_zero]
      exact ⟨hkeep _ _ hnw, hsz⟩
  · rw [List.nodup_append]
    refine ⟨h.2.2, by simp, fun a ha b hb' => ?_⟩
    obtain ⟨i, hi, rfl⟩ := List.getElem_of_mem ha
    have := (h.2.1 i hi).1.lt
    simp at hb'
    omega
end
end Go.Proofs.YtjemjdlaoebffaaDoor
