/- The rule of choice for an objective: the program's. -/
import Derived.Test.YtnkoncplfedffaaCho
namespace Go.Proofs.Ytnkoncplfedffaa
open Go.RowKit
theorem store_at (P : Program) (w : World) (a : Addr) (u v : Value) (hv : v.oneCell' = true) (hc : w.cell? a = some u) (hf : w.frozen? a = false) : (store a v).run P w = .ok () (w.setCell a v) := by
  rw [run_store _ _ _ _ _ hv, hc]
  simp only [hf, Bool.false_eq_true, if_false]
theorem isObj2 {o : Int} (h : o = 2 ∨ o = 4) : isObj o = true := by rcases h with rfl | rfl <;> rfl
/-- The cost of the measure of one of the two objectives. -/
def fCost (o : Int) : Value := if o = 2 then fEnd else fLat
theorem fn_two {o : Int} (h : o = 2 ∨ o = 4) (B : Nat) (w : World) : FnIs B w o (fCost o) := by
  rcases h with rfl | rfl
  · exact .inl ⟨.inr rfl, rfl⟩
  · exact .inr (.inl ⟨rfl, rfl⟩)
theorem fn_is {o : Int} (h : o = 2 ∨ o = 4) {B : Nat} {w : World} {fv : Value} (hF : FnIs B w o fv) : fv = fCost o := by
  rcases h with rfl | rfl
  · rcases hF with ⟨_, rfl⟩ | ⟨h, _⟩ | ⟨h, _⟩ | ⟨h, _⟩ | ⟨h, _⟩ | ⟨h, _⟩ | ⟨h, _⟩
    · rfl
    all_goals cases h
  · rcases hF with ⟨h | h, _⟩ | ⟨_, rfl⟩ | ⟨h, _⟩ | ⟨h, _⟩ | ⟨h, _⟩ | ⟨h, _⟩ | ⟨h, _⟩
    · cases h
    · cases h
    · rfl
    all_goals cases h
theorem fCost_one (o : Int) : (fCost o).oneCell' = true := by unfold fCost; split <;> rfl
/-- A rule of choice as a value. -/
abbrev chV (o : Int) : Value := .agg #[.func (.func (fRank o)) #[] #[], fCost o, .bool (isTop o)]
set_option maxRecDepth 100000 in
set_option maxHeartbeats 1000000 in
theorem choiceOf_any (o : Int) (h : o = 2 ∨ o = 4) (w : World) : Calls Try.prog 75 #[.int .i64 o] w fun e w' => e = .returned (.tuple #[chV o, .bool true]) ∧ Below w.heap.size w w' := by
  have hobj := isObj2 h
  have hone := fCost_one o
  obtain ⟨W0, hW0⟩ : ∃ W0, W0 = w.alloc (.cells #[.nilFunc, .nilFunc, .bool false] 76) := ⟨_, rfl⟩
  have hB0 : BlockIs W0 w.heap.size 76 #[.nilFunc, .nilFunc, .bool false] := by rw [hW0]; exact BlockIs.new _ _ _
  have hb0 : Below w.heap.size w W0 := by rw [hW0]; exact (Below.refl _ _).alloc (Nat.le_refl _) _
  have HW0 := Lib.hid hW0
  have H0 := Lib.hid (And.intro hB0 hb0)
  have HT := Lib.hid h
  clear hW0 hB0 hb0
  go_enter Try.func75, Try.ntmps75
  go_wp2_with fail
  rw [← HW0.out]
  refine (measureOf_any o W0).mono ?_
  rintro e w1 ⟨hb1, ⟨ho, _⟩ | ⟨ho, fv, rfl, hF⟩⟩
  · rw [hobj] at ho; cases ho
  obtain rfl := fn_is h hF
  clear hF
  generalize hfc : fCost o = fv at *
  generalize htp : isTop o = tp at *
  have hst := store_pair Try.prog w1 fv .nilFunc (.bool false) 74 hone
  obtain ⟨W1, hW1⟩ : ∃ W1, W1 = w1.alloc (.cells #[fv, .bool tp] 74) := ⟨_, rfl⟩
  have hbW : Below w1.heap.size w1 W1 := by rw [hW1]; exact (Below.refl _ _).alloc (Nat.le_refl _) _
  have hM : BlockIs W1 w1.heap.size 74 #[fv, .bool tp] := by rw [hW1]; exact BlockIs.new _ _ _
  have hB1 := (H0.out.1.below hb1).below hbW
  have hbb := below_and (below_and H0.out.2 hb1) hbW
  have m0 := hM.cell 0
  have m1 := hM.cell 1
  simp only [List.getElem?_toArray, List.getElem?_cons_zero, List.getElem?_cons_succ] at m0 m1
  have s0 := store_at Try.prog W1 ⟨w.heap.size, 0, none⟩ _ (.func (.func (fRank o)) #[] #[]) rfl (hB1.cell 0) (hB1.frozen 0)
  have hB2 := hB1.set 0 (.func (.func (fRank o)) #[] #[])
  have s1 := store_at Try.prog _ ⟨w.heap.size, 1, none⟩ _ fv hone (hB2.cell 1) (hB2.frozen 1)
  have hB3 := hB2.set 1 fv
  have c2 := hB3.cell 2
  have f2 := hB3.frozen 2
  have hB4 := hB3.set 2 (.bool tp)
  have HB4 := Lib.hid hB4
  have HBB := Lib.hid (((hbb.setCell (p := ⟨w.heap.size, 0, none⟩) (Nat.le_refl _) (.func (.func (fRank o)) #[] #[])).setCell (p := ⟨w.heap.size, 1, none⟩) (Nat.le_refl _) fv).setCell (p := ⟨w.heap.size, 2, none⟩) (Nat.le_refl _) (.bool tp))
  have HW1 := Lib.hid hW1
  rw [hW1] at s0 s1 c2 f2 m0 m1
  clear hbW hM hB1 hbb hB2 hB3 hB4 hb1 hW1
  have HCV : Hid (chV o = .agg #[.func (.func (fRank o)) #[] #[], fv, .bool tp]) := by show _ = _; rw [← hfc, ← htp]
  by_cases h2 : o = 2
  · subst h2
    rw [show fRank 2 = 111 from rfl] at *
    go_wp2
    rw [← HW1.out]
    have q := HB4.out
    have qb := HBB.out
    generalize ((W1.setCell ⟨w.heap.size, 0, none⟩ (.func (.func 111) #[] #[])).setCell ⟨w.heap.size, 1, none⟩ fv).setCell ⟨w.heap.size, 2, none⟩ (.bool tp) = W at *
    have q0 := q.cell 0
    have q1 := q.cell 1
    have q2 := q.cell 2
    simp at q0 q1 q2
    exact bodyPost_ret (v := .tuple #[.agg #[.func (.func 111) #[] #[], fv, .bool tp], .bool true]) (by simp [results, Try.results75, q0, q1, q2, go_sem]) rfl ⟨by rw [HCV.out], qb⟩
  · have h4 : o = 4 := by rcases HT.out with h | h
                          · exact absurd h h2
                          · exact h
    subst h4
    rw [show fRank 4 = 112 from rfl] at *
    go_wp2
    rw [← HW1.out]
    have q := HB4.out
    have qb := HBB.out
    generalize ((W1.setCell ⟨w.heap.size, 0, none⟩ (.func (.func 112) #[] #[])).setCell ⟨w.heap.size, 1, none⟩ fv).setCell ⟨w.heap.size, 2, none⟩ (.bool tp) = W at *
    have q0 := q.cell 0
    have q1 := q.cell 1
    have q2 := q.cell 2
    simp at q0 q1 q2
    exact bodyPost_ret (v := .tuple #[.agg #[.func (.func 112) #[] #[], fv, .bool tp], .bool true]) (by simp [results, Try.results75, q0, q1, q2, go_sem]) rfl ⟨by rw [HCV.out], qb⟩
end Go.Proofs.Ytnkoncplfedffaa
