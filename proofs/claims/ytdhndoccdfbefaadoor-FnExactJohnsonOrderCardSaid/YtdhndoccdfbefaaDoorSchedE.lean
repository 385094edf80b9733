/- Schedules: the end of one more job. -/
import Derived.Test.YtdhndoccdfbefaaDoorSegH
import Derived.Test.YtdhndoccdfbefaaDoorOrd
import Derived.Test.YtdhndoccdfbefaaDoorIdleP
import Derived.StillTailTactics
namespace Go.Proofs.YtdhndoccdfbefaaDoor
open Go.RowKit

def twoB (js : List J) (o : List Int) : Bool := goodL js && ordB js.length o
end Go.Proofs.YtdhndoccdfbefaaDoor
