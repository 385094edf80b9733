/- Two neighbors exchanged in a copy: the model's. -/
import Derived.Test.YtdhndoccdfbefaaSwapB
import Derived.Laws.Cover3
import Derived.RegionTactic
import Derived.BigRegion
namespace Go.Proofs.Ytdhndoccdfbefaa
open Go.RowKit
end Go.Proofs.Ytdhndoccdfbefaa
