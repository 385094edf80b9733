/- Schedules: the end of one more job. -/
import Derived.Test.YtdfkbdhlbhnhbaaDoorSegH
import Derived.Test.YtdfkbdhlbhnhbaaDoorOrd
import Derived.Test.YtdfkbdhlbhnhbaaDoorIdleP
import Derived.StillTailTactics
namespace Go.Proofs.YtdfkbdhlbhnhbaaDoor
open Go.RowKit

def twoB (js : List J) (o : List Int) : Bool := goodL js && ordB js.length o
end Go.Proofs.YtdfkbdhlbhnhbaaDoor
