/- A block that stays where others are written. -/
import Derived.Test.YteidhjmnononaaaArgW
namespace Go.Proofs.Yteidhjmnononaaa
open Go.RowKit
theorem BlockIs.keep {w w' : World} {g : Nat} {t : TypeId} {cs : Array Value} (h : BlockIs w g t cs) {lo hi : Nat} (ht : Touch lo hi w w') (hd : hi ≤ g ∨ g < lo) : BlockIs w' g t cs := (ht.block g h.lt (by omega)).trans h
end Go.Proofs.Yteidhjmnononaaa
