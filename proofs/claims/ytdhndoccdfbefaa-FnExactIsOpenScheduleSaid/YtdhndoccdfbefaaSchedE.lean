/- Schedules: the end of one more job. -/
import Derived.Test.YtdhndoccdfbefaaSegH
import Derived.Test.YtdhndoccdfbefaaOrd
import Derived.Test.YtdhndoccdfbefaaIdleP
import Derived.StillTailTactics
namespace Go.Proofs.Ytdhndoccdfbefaa
open Go.RowKit

def twoB (js : List J) (o : List Int) : Bool := goodL js && ordB js.length o
theorem l1Most_any (x y : Int) (w : World) :
    Calls Try.prog 66 #[.int .i64 x, .int .i64 y] w fun e w' => e = .returned (.int .i64 (max x y)) ∧ w' = w := by
  by_cases h : y < x
  · go_enter Try.func66, Try.ntmps66
    go_wp2
    go_ret
    exact ⟨by rw [show max x y = x by omega]; rfl, rfl⟩
  · go_enter Try.func66, Try.ntmps66
    go_wp2
    go_ret
    exact ⟨by rw [show max x y = y by omega]; rfl, rfl⟩
end Go.Proofs.Ytdhndoccdfbefaa
