/- IsRuledOrder of both: the model's and the program's. -/
import Derived.Test.YtpoibjmkbljblaaDoorWrong
import Derived.Test.YtpoibjmkbljblaaDoorOrd
import Derived.Test.YtpoibjmkbljblaaDoorSortP
import Derived.Test.YtpoibjmkbljblaaDoorRetBB
namespace Go.Proofs.YtpoibjmkbljblaaDoor
open Go.RowKit
def bothB (js : List J) (o : List Int) (ob : Int) : Bool := ruledB js ob && ordB js.length o
theorem both_out {js : List J} {o : List Int} {ob : Int} (h : bothB js o ob = true) : ruledB js ob = true ∧ ∃ p : List Nat, o = natI p ∧ p.Perm (List.range js.length) ∧ p.length = js.length ∧ js.length ≤ 8 ∧ ∀ j ∈ p, j < js.length := by
  unfold bothB at h
  simp only [Bool.and_eq_true] at h
  obtain ⟨p, h1, h2, h3, h4⟩ := ord_nat h.2
  exact ⟨h.1, p, h1, h2, h3, h4, fun j hj => perm_lt h2 hj⟩
theorem natI_inj : ∀ {p q : List Nat}, natI p = natI q → p = q
  | [], [], _ => rfl
  | [], _ :: _, h => by cases h
  | _ :: _, [], h => by cases h
  | a :: p, b :: q, h => by
    simp only [natI, List.map_cons, List.cons.injEq] at h
    have := Int.ofNat.inj h.1
    subst this
    rw [natI_inj (p := p) (q := q) h.2]
def noWrongB (js : List J) (o : List Int) (ob : Int) : Bool := decide (wrongN ob js (natsOf o) < 0)
def isRuledR (js : List J) (o : List Int) (ob : Int) : Bool × Bool := if bothB js o ob then (noWrongB js o ob, true) else (false, false)
theorem wrong_cases (ob : Int) (js : List J) (p : List Nat) : (wrongV ob js p = none ∧ wrongN ob js p = -1 ∧ wrongP ob js p = (0, false)) ∨ ∃ k : Nat, wrongV ob js p = some k ∧ wrongN ob js p = k ∧ wrongP ob js p = ((k : Int), true) := by
  unfold wrongN wrongP
  cases wrongV ob js p with
  | none => exact .inl ⟨rfl, rfl, rfl⟩
  | some k => exact .inr ⟨k, rfl, rfl, rfl⟩
theorem noWrong_not (ob : Int) (js : List J) (p : List Nat) : noWrongB js (natI p) ob = !(wrongP ob js p).2 := by
  unfold noWrongB
  rw [natsOf_natI]
  rcases wrong_cases ob js p with ⟨_, h2, h3⟩ | ⟨k, _, h2, h3⟩
  · rw [h2, h3]; rfl
  · rw [h2, h3]; exact decide_eq_false (by omega)
theorem wrong_bd (ob : Int) (js : List J) (p : List Nat) : -1 ≤ wrongN ob js p ∧ wrongN ob js p ≤ p.length := by
  rcases wrong_cases ob js p with ⟨_, h2, _⟩ | ⟨k, h1, h2, _⟩
  · omega
  · have := (wrong_out ob js h1).1; omega
section
variable (A B : Option Addr) (c d n : Nat) (js : List J) (o : List Int) (ob : Int) (w : World) (hno : n = o.length) (hr : Row w A (jc js)) (hq : Row w B (ic o)) (hn : js.length ≤ 10000000) (hm : o.length ≤ 10000000)
include hno hr hq hn hm
end
section
variable (A B : Option Addr) (c d : Nat) (js : List J) (o : List Int) (ob : Int) (w : World) (hr : Row w A (jc js)) (hq : Row w B (ic o)) (hn : js.length ≤ 10000000) (hm : o.length ≤ 10000000)
include hr hq hn hm
end
end Go.Proofs.YtpoibjmkbljblaaDoor
