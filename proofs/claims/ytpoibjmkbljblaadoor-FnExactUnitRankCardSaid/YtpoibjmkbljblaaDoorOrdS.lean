/- The ruled order: the model's. -/
import Derived.Test.YtpoibjmkbljblaaDoorRuleS
import Derived.Test.YtpoibjmkbljblaaDoorKb1
import Derived.Test.YtpoibjmkbljblaaDoorKb2
namespace Go.Proofs.YtpoibjmkbljblaaDoor
open Go.RowKit
theorem but_o3 {a3 b3 v0 v1 v10 v11 v2 v4 v5 v6 v7 v8 v9 : Value} (j : Nat) (h3 : j ≠ 3) : (#[v0, v1, v2, a3, v4, v5, v6, v7, v8, v9, v10, v11] : Array Value).getD j undef = (#[v0, v1, v2, b3, v4, v5, v6, v7, v8, v9, v10, v11] : Array Value).getD j undef := by
  rcases (by omega : j = 0 ∨ j = 1 ∨ j = 2 ∨ j = 4 ∨ j = 5 ∨ j = 6 ∨ j = 7 ∨ j = 8 ∨ j = 9 ∨ j = 10 ∨ j = 11 ∨ 11 < j) with rfl | rfl | rfl | rfl | rfl | rfl | rfl | rfl | rfl | rfl | rfl | h
  all_goals first | rfl | (simp only [Array.getD_eq_getD_getElem?]; rw [Array.getElem?_eq_none (by simp; omega), Array.getElem?_eq_none (by simp; omega)])
theorem but_o5 {a5 b5 v0 v1 v10 v11 v2 v3 v4 v6 v7 v8 v9 : Value} (j : Nat) (h5 : j ≠ 5) : (#[v0, v1, v2, v3, v4, a5, v6, v7, v8, v9, v10, v11] : Array Value).getD j undef = (#[v0, v1, v2, v3, v4, b5, v6, v7, v8, v9, v10, v11] : Array Value).getD j undef := by
  rcases (by omega : j = 0 ∨ j = 1 ∨ j = 2 ∨ j = 3 ∨ j = 4 ∨ j = 6 ∨ j = 7 ∨ j = 8 ∨ j = 9 ∨ j = 10 ∨ j = 11 ∨ 11 < j) with rfl | rfl | rfl | rfl | rfl | rfl | rfl | rfl | rfl | rfl | rfl | h
  all_goals first | rfl | (simp only [Array.getD_eq_getD_getElem?]; rw [Array.getElem?_eq_none (by simp; omega), Array.getElem?_eq_none (by simp; omega)])
theorem but_o6 {a6 b6 v0 v1 v10 v11 v2 v3 v4 v5 v7 v8 v9 : Value} (j : Nat) (h6 : j ≠ 6) : (#[v0, v1, v2, v3, v4, v5, a6, v7, v8, v9, v10, v11] : Array Value).getD j undef = (#[v0, v1, v2, v3, v4, v5, b6, v7, v8, v9, v10, v11] : Array Value).getD j undef := by
  rcases (by omega : j = 0 ∨ j = 1 ∨ j = 2 ∨ j = 3 ∨ j = 4 ∨ j = 5 ∨ j = 7 ∨ j = 8 ∨ j = 9 ∨ j = 10 ∨ j = 11 ∨ 11 < j) with rfl | rfl | rfl | rfl | rfl | rfl | rfl | rfl | rfl | rfl | rfl | h
  all_goals first | rfl | (simp only [Array.getD_eq_getD_getElem?]; rw [Array.getElem?_eq_none (by simp; omega), Array.getElem?_eq_none (by simp; omega)])
theorem but_o10 {a10 a11 b10 b11 v0 v1 v2 v3 v4 v5 v6 v7 v8 v9 : Value} (j : Nat) (h10 : j ≠ 10) (h11 : j ≠ 11) : (#[v0, v1, v2, v3, v4, v5, v6, v7, v8, v9, a10, a11] : Array Value).getD j undef = (#[v0, v1, v2, v3, v4, v5, v6, v7, v8, v9, b10, b11] : Array Value).getD j undef := by
  rcases (by omega : j = 0 ∨ j = 1 ∨ j = 2 ∨ j = 3 ∨ j = 4 ∨ j = 5 ∨ j = 6 ∨ j = 7 ∨ j = 8 ∨ j = 9 ∨ 11 < j) with rfl | rfl | rfl | rfl | rfl | rfl | rfl | rfl | rfl | rfl | h
  all_goals first | rfl | (simp only [Array.getD_eq_getD_getElem?]; rw [Array.getElem?_eq_none (by simp; omega), Array.getElem?_eq_none (by simp; omega)])
theorem own_block2 {w : World} {B n : Nat} {v : Value} {cs : List Value} (h : w.ownsRow B 3 1 v n cs) (hn : 0 < n) : ∃ g, B ≤ g ∧ (∃ c, v = .slice (some ⟨g, 0, none⟩) n c) ∧ True := by
  rcases h.2 with ⟨_, h0⟩ | ⟨g, cap, cur, hv, hb, _⟩
  · omega
  · exact ⟨g, hb, ⟨cap, hv⟩, trivial⟩
section
variable (A : Option Addr) (c : Nat) (js : List J) (ob : Int) (w : World) (hr : Row w A (jc js)) (hg : goodL js = true) (ho : isRule ob = true)
include hr hg ho
end
end Go.Proofs.YtpoibjmkbljblaaDoor
