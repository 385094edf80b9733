/- Rules: the model's. RuleDifference of both. -/
import Derived.Test.YtpoibjmkbljblaaDoorRule
import Derived.RegionTactic
import Derived.BigRegion
namespace Go.Proofs.YtpoibjmkbljblaaDoor
open Go.RowKit
theorem ruled_eq (js : List J) (ob : Int) : ruledB js ob = (goodL js && (inB ob 1 4 && (decide (ob = 1) || plain0 js))) := rfl
section
variable (A : Option Addr) (c : Nat) (js : List J) (ob : Int) (w : World) (hr : Row w A (jc js)) (hn : js.length ≤ 10000000)
include hr hn
end
section
variable (A : Option Addr) (c : Nat) (js : List J) (ob : Int) (w : World) (hr : Row w A (jc js)) (hg : ∀ j ∈ js, okJ j = true) (i k : Nat) (hi : i < js.length) (hk : k < js.length)
include hr hg hi hk
end
def jobB (n : Nat) (i : Int) : Bool := inB i 0 ((n : Int) - 1)
theorem job_out {n : Nat} {i : Int} (h : jobB n i = true) : ∃ k : Nat, i = (k : Int) ∧ k < n := by
  have := inB_out h
  exact ⟨i.toNat, by omega, by omega⟩
def diffR (js : List J) (ob i k : Int) : Int × Bool := if ruledB js ob && (jobB js.length i && jobB js.length k) then (gapN ob js i.toNat k.toNat, true) else (0, false)
section
variable (A : Option Addr) (c : Nat) (js : List J) (ob i k : Int) (w : World) (hr : Row w A (jc js)) (hn : js.length ≤ 10000000)
include hr hn
end
end Go.Proofs.YtpoibjmkbljblaaDoor
