/- Schedules: the end of one more job. -/
import Derived.Test.YtjemjdlaoebffaaDoorSegH
import Derived.Test.YtjemjdlaoebffaaDoorOrd
import Derived.Test.YtjemjdlaoebffaaDoorIdleP
import Derived.StillTailTactics
namespace Go.Proofs.YtjemjdlaoebffaaDoor
open Go.RowKit

def twoB (js : List J) (o : List Int) : Bool := goodL js && ordB js.length o
theorem l1Most_any (x y : Int) (w : World) :
    Calls Tryd.prog 92 #[.int .i64 x, .int .i64 y] w fun e w' => e = .returned (.int .i64 (max x y)) ∧ w' = w := by
  by_cases h : y < x
  · go_enter Tryd.func92, Tryd.ntmps92
    go_wp2
    go_ret
    exact ⟨by rw [show max x y = x by omega]; rfl, rfl⟩
  · go_enter Tryd.func92, Tryd.ntmps92
    go_wp2
    go_ret
    exact ⟨by rw [show max x y = y by omega]; rfl, rfl⟩
end Go.Proofs.YtjemjdlaoebffaaDoor
