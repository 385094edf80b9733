/- Schedules: the end of one more job. -/
import Derived.Test.YtpoibjmkbljblaaSegH
import Derived.Test.YtpoibjmkbljblaaOrd
import Derived.Test.YtpoibjmkbljblaaIdleP
import Derived.StillTailTactics
namespace Go.Proofs.Ytpoibjmkbljblaa
open Go.RowKit

def twoB (js : List J) (o : List Int) : Bool := goodL js && ordB js.length o
end Go.Proofs.Ytpoibjmkbljblaa
