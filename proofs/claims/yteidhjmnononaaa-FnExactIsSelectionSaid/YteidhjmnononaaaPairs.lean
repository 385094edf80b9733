/- Slices of pairs of ints, all of one's own: equality, marks. -/
import Derived.Test.YteidhjmnononaaaPrC
import Derived.Deep.RegionWith
namespace Go.Proofs.Yteidhjmnononaaa
open Go.RowKit
end Go.Proofs.Yteidhjmnononaaa
