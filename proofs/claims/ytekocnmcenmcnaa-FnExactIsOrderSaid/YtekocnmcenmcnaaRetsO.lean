/- IsOrder: the model's and the program's. -/
import Derived.Test.YtekocnmcenmcnaaSegH
import Derived.Test.YtekocnmcenmcnaaOrd
namespace Go.Proofs.Ytekocnmcenmcnaa
open Go.RowKit
theorem spec_IsOrder (A : Option Addr) (c : Nat) (n : Int) (o : List Int) (w : World) (hr : Row w A (ic o)) (hn : o.length ≤ 10000000) :
    Calls Try.prog 47 #[.int .i64 n, .slice A o.length c] w fun e w' => e = .returned (.bool (ordB n o)) ∧ Below w.heap.size w w' := by
  go_enter Try.func47, Try.ntmps47
  go_wp2_with fail
  refine (l2Order_any n A c o _ hr (by omega)).mono ?_
  rintro e w1 ⟨rfl, rfl⟩
  go_wp2
  go_ret
  exact ⟨rfl, Below.refl _ _⟩
theorem impl_IsOrder (A : Option Addr) (c : Nat) (n : Int) (o : List Int) (w : World) (hr : Row w A (ic o)) (hn : o.length ≤ 10000000) :
    Calls Try.prog 20 #[.int .i64 n, .slice A o.length c] w fun e w' => e = .returned (.bool (ordB n o)) ∧ Below w.heap.size w w' :=
  IsOrder_any n A c o w hr (by omega)
end Go.Proofs.Ytekocnmcenmcnaa
