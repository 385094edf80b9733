/- Schedules: the end of one more job. -/
import Derived.Test.YteidhjmnononaaaSegH
import Derived.Test.YteidhjmnononaaaOrd
import Derived.Test.YteidhjmnononaaaIdleP
import Derived.StillTailTactics
namespace Go.Proofs.Yteidhjmnononaaa
open Go.RowKit

def twoB (js : List J) (o : List Int) : Bool := goodL js && ordB js.length o
end Go.Proofs.Yteidhjmnononaaa
