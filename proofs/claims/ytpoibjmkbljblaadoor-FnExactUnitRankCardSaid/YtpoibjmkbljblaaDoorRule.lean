/- Rules: what the program makes of an objective's number, and what its rule tells of two jobs. -/
import Derived.Test.YtpoibjmkbljblaaDoorKb1
import Derived.Test.YtpoibjmkbljblaaDoorEndsO
import Derived.IntWalk
namespace Go.Proofs.YtpoibjmkbljblaaDoor
open Go.RowKit
section
variable (b : Nat) (A : Option Addr) (c : Nat) (js : List J) (w : World) (hB : BlockIs w b 27 #[.slice A js.length c]) (hr : Row w A (jc js)) (hg : ∀ j ∈ js, okJ j = true) (i k : Nat) (hi : i < js.length) (hk : k < js.length)
include hB hr hg hi hk
end
theorem isRule_out {o : Int} (h : isRule o = true) : o = 1 ∨ o = 2 ∨ o = 3 ∨ o = 4 := by
  have := of_decide_eq_true h
  omega
theorem ruled_bad {js : List J} {ob : Int} (h : goodL js = false) : ruledB js ob = false := by unfold ruledB; rw [h]; rfl
theorem ruled_one {js : List J} (h : goodL js = true) : ruledB js 1 = true := by unfold ruledB; rw [h]; rfl
theorem ruled_not {js : List J} {ob : Int} (h : isRule ob = false) : ruledB js ob = false := by unfold ruledB; rw [h, Bool.false_and, Bool.and_false]
theorem ruled_ne {js : List J} {ob : Int} (h : ob ≠ 1) (hp : plainL js = false) : ruledB js ob = false := by
  unfold plainL at hp
  unfold ruledB
  rw [decide_eq_false h, Bool.false_or]
  cases hg : goodL js
  · rfl
  · rw [hg, Bool.true_and] at hp; rw [hp, Bool.and_false]; rfl
section
variable (A : Option Addr) (c : Nat) (js : List J) (ob : Int) (w : World) (hr : Row w A (jc js)) (hn : js.length ≤ 10000000)
include hr hn
end
end Go.Proofs.YtpoibjmkbljblaaDoor
