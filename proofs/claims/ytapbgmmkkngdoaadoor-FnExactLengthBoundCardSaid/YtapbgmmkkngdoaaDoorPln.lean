/- Lists of jobs without releases: the model's l4Free and l6Good, the program's plainListOf. -/
import Derived.Test.YtapbgmmkkngdoaaDoorPlain
namespace Go.Proofs.YtapbgmmkkngdoaaDoor
open Go.RowKit
section
variable (A : Option Addr) (c : Nat) (js : List J) (w : World) (hr : Row w A (jc js)) (hn : js.length ≤ 100000000)
include hr hn
/-- A list that is not plain is handed on as none. -/
def PlnIs (A : Option Addr) (c : Nat) (js : List J) (w : World) (e : Ending) (w' : World) : Prop :=
  Below w.heap.size w w' ∧ ((plainL js = true ∧ e = .returned (.tuple #[.slice A js.length c, .bool true])) ∨ (plainL js = false ∧ e = .returned (.tuple #[.slice none 0 0, .bool false])))
theorem plainListOf_any : Calls Tryd.prog 86 #[.slice A js.length c] w (PlnIs A c js w) := by
  cases hp : plainL js
  · go_enter Tryd.func86, Tryd.ntmps86
    go_wp2_with fail
    refine (impl_IsPlain A c js _ hr hn).mono ?_
    rintro e w1 ⟨rfl, hb1⟩
    rw [hp]
    go_wp2
    go_ret2
    exact ⟨hb1, .inr ⟨hp, rfl⟩⟩
  · go_enter Tryd.func86, Tryd.ntmps86
    go_wp2_with fail
    refine (impl_IsPlain A c js _ hr hn).mono ?_
    rintro e w1 ⟨rfl, hb1⟩
    rw [hp]
    go_wp2
    go_ret2
    exact ⟨hb1, .inl ⟨hp, rfl⟩⟩
end
end Go.Proofs.YtapbgmmkkngdoaaDoor
