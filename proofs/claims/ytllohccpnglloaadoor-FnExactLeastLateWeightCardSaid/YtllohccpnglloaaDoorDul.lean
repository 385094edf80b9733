/- DueOrder: the model's and the program's. -/
import Derived.Test.YtllohccpnglloaaDoorSrf
import Derived.Test.YtllohccpnglloaaDoorDud
import Derived.Test.YtllohccpnglloaaDoorSegH
namespace Go.Proofs.YtllohccpnglloaaDoor
open Go.RowKit
theorem ret_ownD {w w' : World} {r : List Int × Bool} {p : List Nat} {v : Value} {n : Nat} {b : Bool} (hr : r = (natI p, b)) (hn : p.length = n) (ho : w'.ownsRow w.heap.size 3 1 v n (ic (natI p))) (hb : Below w.heap.size w w') (e : Ending) (he : e = .returned (.tuple #[v, .bool b])) : RetIB w r e w' := by
  subst hr hn
  obtain ⟨A, c, rfl, hs⟩ := seg_out ho
  subst he
  refine ⟨A, c, by rw [List.length_map], ?_, hb⟩
  rw [List.length_map]
  exact hs
def dueR (js : List J) : List Int × Bool := if plainL js then (natI (dueL js (List.range js.length)), true) else ([], false)
theorem dueR_len (js : List J) : (dueR js).1.length ≤ 8 := by
  unfold dueR
  split
  · rename_i h
    have h8 := (good_out (plain_good h)).1
    show (natI _).length ≤ 8
    unfold natI
    rw [List.length_map, dueL_len, List.length_range]; exact h8
  · exact Nat.zero_le _
section
variable (A : Option Addr) (c : Nat) (js : List J) (w : World) (hr : Row w A (jc js)) (hn : js.length ≤ 10000000)
include hr hn
end
end Go.Proofs.YtllohccpnglloaaDoor
