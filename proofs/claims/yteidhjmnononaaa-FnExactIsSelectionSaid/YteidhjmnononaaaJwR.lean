/- OpsOf and OpsOn: both sides. -/
import Derived.Test.YteidhjmnononaaaJwO
import Derived.Test.YteidhjmnononaaaEndsO
namespace Go.Proofs.Yteidhjmnononaaa
set_option linter.unusedSimpArgs false
set_option linter.unusedVariables false
set_option linter.unusedSectionVars false
open Go.RowKit
theorem ret_ownIW {w w' : World} {r : List Int × Bool} {p : List Int} {n : Nat} {v : Value} {b : Bool} (hr : r = (p, b)) (hn : p.length = n) (ho : w'.ownsRow w.heap.size 3 1 v n (ic p)) (hb : Below w.heap.size w w') (e : Ending) (he : e = .returned (.tuple #[v, .bool b])) : RetIB w r e w' := by
  subst hr hn
  obtain ⟨A, c, rfl, hs⟩ := seg_out ho
  subst he
  exact ⟨A, c, rfl, hs, hb⟩
section
variable (A : Option Addr) (c : Nat) (m : Int) (xss : List (List Pr)) (w : World) (hr : RowX pc w A xss) (hn : xss.length ≤ 10000000 ∧ (lensX xss).sum ≤ 10000000)
include hr hn
end
end Go.Proofs.Yteidhjmnononaaa
