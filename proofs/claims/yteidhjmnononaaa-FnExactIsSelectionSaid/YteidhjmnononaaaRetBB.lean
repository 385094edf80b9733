/- What a function with two bools returns. (WrongO and BestV have one of the same name: never import both.) -/
import Derived.Test.YteidhjmnononaaaMem
namespace Go.Proofs.Yteidhjmnononaaa
open Go.RowKit
def RetBB (w : World) (r : Bool × Bool) (e : Ending) (w' : World) : Prop := e = .returned (.tuple #[.bool r.1, .bool r.2]) ∧ Below w.heap.size w w'
end Go.Proofs.Yteidhjmnononaaa
