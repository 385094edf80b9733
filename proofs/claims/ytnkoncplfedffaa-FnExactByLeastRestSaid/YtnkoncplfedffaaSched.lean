/- Schedules: whether there is one, the model's and the program's. -/
import Derived.Test.YtnkoncplfedffaaSchedE
namespace Go.Proofs.Ytnkoncplfedffaa
open Go.RowKit
end Go.Proofs.Ytnkoncplfedffaa
