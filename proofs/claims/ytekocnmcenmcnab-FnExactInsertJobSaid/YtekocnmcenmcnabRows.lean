/-
  No cell of these rows narrows 'for every input' (looked for: loops, veiled, ifaces, maps, wideKeys, modest, calm, conditions, laid).
  DERIVED. THE GIVEN ROWS OF THIS SEAT. 8 by the template 'for every input the law returns true; each argument reads behind the call as it read before'; 0 by the template 'total and deterministic' (their statements: YtekocnmcenmcnabTotals.lean).
  GIVEN WITH THE SEED: the statements are not yours to turn. If you find one false, say at which input.
  Laid BY PROGRAM, IN A SANDBOX (cutbox-rows.mjs): the forced cells as the released guide's own fill.sh prints them over the translation fc727a6c6216e807… (all of the seat's roots in one cut). By AI agents, Wed Nov 11 2026. No macro, syntax, notation, axiom, sorry.
-/
import Derived.Test.YtekocnmcenmcnabChecked
import GoSem.Claim
import GoSem.ClaimJoined
import GoSem.ClaimMapViews
import Derived.JoinedTies
import Derived.KernelRfl
namespace Go.Proofs.Ytekocnmcenmcnab
/- THE CELL 'sum', in the pinned program and in every row, IS THE sha256 OF THE DUMP (.gsa) THAT YtekocnmcenmcnabProg.lean LOADS. Nothing in Lean hashes anything: it is a label: what it is worth is what the hold of that sum in a sandbox is worth. -/
noncomputable def Try.pinned : Pinned := { name := "ytekocnmcenmcnab", sum := "fc727a6c6216e807301f9832e60675a7534d6dc33981991346648b2396eb695b", checked := Try.checked }
namespace Rows
def none {H : Type} : Left H := { results := [], args := [] }

/-- 'laws.FnExactBestValue': WHATEVER THE INPUT: true; the input reads as it did. -/
def fnExactBestValueSpec : ChangeSpec := { name := "fnExactBestValue", fn := fun _ => fun
  | [d1, d2] => { results := [.lit (.bool true)], args := [d1, d2] }
  | _ => none }
def fnExactBestValueRow : OpenClaim := { program := "ytekocnmcenmcnab", sum := "fc727a6c6216e807301f9832e60675a7534d6dc33981991346648b2396eb695b", func := "loop.example/g01103/laws.FnExactBestValue", spec := "fnExactBestValue", unfollowed := true, recurses := true, apart := false }
def FnExactBestValueSaid : Prop := fnExactBestValueRow.holds Try.pinned (OpenSpec.ofChange fnExactBestValueSpec)

/-- ITS FALSE NEIGHBOUR: 'it returns false'. Refute it at one input. -/
def fnExactBestValueWrong : ChangeSpec := { name := "fnExactBestValue", fn := fun _ => fun
  | [d1, d2] => { results := [.lit (.bool false)], args := [d1, d2] }
  | _ => none }
def FnExactBestValueWrongFalsely : Prop := fnExactBestValueRow.holds Try.pinned (OpenSpec.ofChange fnExactBestValueWrong)

/-- 'laws.FnExactIsBestOrder': WHATEVER THE INPUT: true; the input reads as it did. -/
def fnExactIsBestOrderSpec : ChangeSpec := { name := "fnExactIsBestOrder", fn := fun _ => fun
  | [d1, d2, d3] => { results := [.lit (.bool true)], args := [d1, d2, d3] }
  | _ => none }
def fnExactIsBestOrderRow : OpenClaim := { program := "ytekocnmcenmcnab", sum := "fc727a6c6216e807301f9832e60675a7534d6dc33981991346648b2396eb695b", func := "loop.example/g01103/laws.FnExactIsBestOrder", spec := "fnExactIsBestOrder", unfollowed := true, recurses := true, apart := false }
def FnExactIsBestOrderSaid : Prop := fnExactIsBestOrderRow.holds Try.pinned (OpenSpec.ofChange fnExactIsBestOrderSpec)

/-- ITS FALSE NEIGHBOUR: 'it returns false'. Refute it at one input. -/
def fnExactIsBestOrderWrong : ChangeSpec := { name := "fnExactIsBestOrder", fn := fun _ => fun
  | [d1, d2, d3] => { results := [.lit (.bool false)], args := [d1, d2, d3] }
  | _ => none }
def FnExactIsBestOrderWrongFalsely : Prop := fnExactIsBestOrderRow.holds Try.pinned (OpenSpec.ofChange fnExactIsBestOrderWrong)

/-- 'laws.FnExactCountBest': WHATEVER THE INPUT: true; the input reads as it did. -/
def fnExactCountBestSpec : ChangeSpec := { name := "fnExactCountBest", fn := fun _ => fun
  | [d1, d2] => { results := [.lit (.bool true)], args := [d1, d2] }
  | _ => none }
def fnExactCountBestRow : OpenClaim := { program := "ytekocnmcenmcnab", sum := "fc727a6c6216e807301f9832e60675a7534d6dc33981991346648b2396eb695b", func := "loop.example/g01103/laws.FnExactCountBest", spec := "fnExactCountBest", unfollowed := true, recurses := true, apart := false }
def FnExactCountBestSaid : Prop := fnExactCountBestRow.holds Try.pinned (OpenSpec.ofChange fnExactCountBestSpec)

/-- ITS FALSE NEIGHBOUR: 'it returns false'. Refute it at one input. -/
def fnExactCountBestWrong : ChangeSpec := { name := "fnExactCountBest", fn := fun _ => fun
  | [d1, d2] => { results := [.lit (.bool false)], args := [d1, d2] }
  | _ => none }
def FnExactCountBestWrongFalsely : Prop := fnExactCountBestRow.holds Try.pinned (OpenSpec.ofChange fnExactCountBestWrong)

/-- 'laws.FnExactExchangeGain': WHATEVER THE INPUT: true; the input reads as it did. -/
def fnExactExchangeGainSpec : ChangeSpec := { name := "fnExactExchangeGain", fn := fun _ => fun
  | [d1, d2, d3, d4] => { results := [.lit (.bool true)], args := [d1, d2, d3, d4] }
  | _ => none }
def fnExactExchangeGainRow : OpenClaim := { program := "ytekocnmcenmcnab", sum := "fc727a6c6216e807301f9832e60675a7534d6dc33981991346648b2396eb695b", func := "loop.example/g01103/laws.FnExactExchangeGain", spec := "fnExactExchangeGain", unfollowed := true, recurses := true, apart := false }
def FnExactExchangeGainSaid : Prop := fnExactExchangeGainRow.holds Try.pinned (OpenSpec.ofChange fnExactExchangeGainSpec)

/-- ITS FALSE NEIGHBOUR: 'it returns false'. Refute it at one input. -/
def fnExactExchangeGainWrong : ChangeSpec := { name := "fnExactExchangeGain", fn := fun _ => fun
  | [d1, d2, d3, d4] => { results := [.lit (.bool false)], args := [d1, d2, d3, d4] }
  | _ => none }
def FnExactExchangeGainWrongFalsely : Prop := fnExactExchangeGainRow.holds Try.pinned (OpenSpec.ofChange fnExactExchangeGainWrong)

/-- 'laws.FnExactNextExchange': WHATEVER THE INPUT: true; the input reads as it did. -/
def fnExactNextExchangeSpec : ChangeSpec := { name := "fnExactNextExchange", fn := fun _ => fun
  | [d1, d2, d3] => { results := [.lit (.bool true)], args := [d1, d2, d3] }
  | _ => none }
def fnExactNextExchangeRow : OpenClaim := { program := "ytekocnmcenmcnab", sum := "fc727a6c6216e807301f9832e60675a7534d6dc33981991346648b2396eb695b", func := "loop.example/g01103/laws.FnExactNextExchange", spec := "fnExactNextExchange", unfollowed := true, recurses := true, apart := false }
def FnExactNextExchangeSaid : Prop := fnExactNextExchangeRow.holds Try.pinned (OpenSpec.ofChange fnExactNextExchangeSpec)

/-- ITS FALSE NEIGHBOUR: 'it returns false'. Refute it at one input. -/
def fnExactNextExchangeWrong : ChangeSpec := { name := "fnExactNextExchange", fn := fun _ => fun
  | [d1, d2, d3] => { results := [.lit (.bool false)], args := [d1, d2, d3] }
  | _ => none }
def FnExactNextExchangeWrongFalsely : Prop := fnExactNextExchangeRow.holds Try.pinned (OpenSpec.ofChange fnExactNextExchangeWrong)

/-- 'laws.FnExactExchangeDown': WHATEVER THE INPUT: true; the input reads as it did. -/
def fnExactExchangeDownSpec : ChangeSpec := { name := "fnExactExchangeDown", fn := fun _ => fun
  | [d1, d2, d3] => { results := [.lit (.bool true)], args := [d1, d2, d3] }
  | _ => none }
def fnExactExchangeDownRow : OpenClaim := { program := "ytekocnmcenmcnab", sum := "fc727a6c6216e807301f9832e60675a7534d6dc33981991346648b2396eb695b", func := "loop.example/g01103/laws.FnExactExchangeDown", spec := "fnExactExchangeDown", unfollowed := true, recurses := true, apart := false }
def FnExactExchangeDownSaid : Prop := fnExactExchangeDownRow.holds Try.pinned (OpenSpec.ofChange fnExactExchangeDownSpec)

/-- ITS FALSE NEIGHBOUR: 'it returns false'. Refute it at one input. -/
def fnExactExchangeDownWrong : ChangeSpec := { name := "fnExactExchangeDown", fn := fun _ => fun
  | [d1, d2, d3] => { results := [.lit (.bool false)], args := [d1, d2, d3] }
  | _ => none }
def FnExactExchangeDownWrongFalsely : Prop := fnExactExchangeDownRow.holds Try.pinned (OpenSpec.ofChange fnExactExchangeDownWrong)

/-- 'laws.FnExactInsertJob': WHATEVER THE INPUT: true; the input reads as it did. -/
def fnExactInsertJobSpec : ChangeSpec := { name := "fnExactInsertJob", fn := fun _ => fun
  | [d1, d2, d3] => { results := [.lit (.bool true)], args := [d1, d2, d3] }
  | _ => none }
def fnExactInsertJobRow : OpenClaim := { program := "ytekocnmcenmcnab", sum := "fc727a6c6216e807301f9832e60675a7534d6dc33981991346648b2396eb695b", func := "loop.example/g01103/laws.FnExactInsertJob", spec := "fnExactInsertJob", inPlace := ["slices.overlaps[int]"], apart := false }
def FnExactInsertJobSaid : Prop := fnExactInsertJobRow.holds Try.pinned (OpenSpec.ofChange fnExactInsertJobSpec)

/-- ITS FALSE NEIGHBOUR: 'it returns false'. Refute it at one input. -/
def fnExactInsertJobWrong : ChangeSpec := { name := "fnExactInsertJob", fn := fun _ => fun
  | [d1, d2, d3] => { results := [.lit (.bool false)], args := [d1, d2, d3] }
  | _ => none }
def FnExactInsertJobWrongFalsely : Prop := fnExactInsertJobRow.holds Try.pinned (OpenSpec.ofChange fnExactInsertJobWrong)

/-- 'laws.FnExactMirrorJobs': WHATEVER THE INPUT: true; the input reads as it did. -/
def fnExactMirrorJobsSpec : ChangeSpec := { name := "fnExactMirrorJobs", fn := fun _ => fun
  | [d1, d2] => { results := [.lit (.bool true)], args := [d1, d2] }
  | _ => none }
def fnExactMirrorJobsRow : OpenClaim := { program := "ytekocnmcenmcnab", sum := "fc727a6c6216e807301f9832e60675a7534d6dc33981991346648b2396eb695b", func := "loop.example/g01103/laws.FnExactMirrorJobs", spec := "fnExactMirrorJobs", unfollowed := true, recurses := true, apart := false }
def FnExactMirrorJobsSaid : Prop := fnExactMirrorJobsRow.holds Try.pinned (OpenSpec.ofChange fnExactMirrorJobsSpec)

/-- ITS FALSE NEIGHBOUR: 'it returns false'. Refute it at one input. -/
def fnExactMirrorJobsWrong : ChangeSpec := { name := "fnExactMirrorJobs", fn := fun _ => fun
  | [d1, d2] => { results := [.lit (.bool false)], args := [d1, d2] }
  | _ => none }
def FnExactMirrorJobsWrongFalsely : Prop := fnExactMirrorJobsRow.holds Try.pinned (OpenSpec.ofChange fnExactMirrorJobsWrong)

/- THE SECOND FORM. 'bulk': how many values and letters a reading holds, each counted each time it is reached (what is shared counts as often as it is met; a slice's spare places count too). A statement '..UptoSaid' is the law's where the arguments, and the package variables that the reading takes, are together of bulk at most 1048576: NARROWER than '..Said'. Prove '..Said' where nothing that the law and all that it calls make is longer than what came in: it says more and counts as full. Else prove '..UptoSaid'. A law counts once. -/
mutual
def uptoBulk {H : Type} : DataW H → Nat
  | .lit (.string bytes) => bytes.length + 1
  | .lit _ => 1
  | .nil => 1
  | .ptr d => uptoBulk d + 1
  | .slice elems spare => uptoBulkAll elems + uptoBulkAll spare + 1
  | .agg parts => uptoBulkAll parts + 1
  | .iface _ d => uptoBulk d + 1
  | .map entries => uptoBulkEntries entries + 1
  | .held _ => 1
def uptoBulkAll {H : Type} : List (DataW H) → Nat
  | [] => 0
  | d :: r => uptoBulk d + uptoBulkAll r
def uptoBulkEntries {H : Type} : List (Lit × DataW H) → Nat
  | [] => 0
  | x :: r => uptoBulkEntry x + uptoBulkEntries r
def uptoBulkEntry {H : Type} : Lit × DataW H → Nat
  | (.string bytes, d) => bytes.length + uptoBulk d + 1
  | (_, d) => uptoBulk d + 1
 end
def uptoSmall : (H : Type) → List (DataW H) → Bool := fun _ ds => decide (uptoBulkAll ds ≤ 1048576)
def OpenSpec.upto (s : _root_.Go.ChangeSpec) : _root_.Go.OpenSpec := { _root_.Go.OpenSpec.ofChange s with cond := some uptoSmall }

/-- 'laws.FnExactBestValue', WHERE WHAT IT READS IS OF BULK AT MOST 1048576: true; the input reads as it did. -/
def fnExactBestValueUptoRow : OpenClaim := { program := "ytekocnmcenmcnab", sum := "fc727a6c6216e807301f9832e60675a7534d6dc33981991346648b2396eb695b", func := "loop.example/g01103/laws.FnExactBestValue", spec := "fnExactBestValue", unfollowed := true, recurses := true, apart := false, narrowed := true }
def FnExactBestValueUptoSaid : Prop := fnExactBestValueUptoRow.holds Try.pinned (OpenSpec.upto fnExactBestValueSpec)

/-- 'laws.FnExactIsBestOrder', WHERE WHAT IT READS IS OF BULK AT MOST 1048576: true; the input reads as it did. -/
def fnExactIsBestOrderUptoRow : OpenClaim := { program := "ytekocnmcenmcnab", sum := "fc727a6c6216e807301f9832e60675a7534d6dc33981991346648b2396eb695b", func := "loop.example/g01103/laws.FnExactIsBestOrder", spec := "fnExactIsBestOrder", unfollowed := true, recurses := true, apart := false, narrowed := true }
def FnExactIsBestOrderUptoSaid : Prop := fnExactIsBestOrderUptoRow.holds Try.pinned (OpenSpec.upto fnExactIsBestOrderSpec)

/-- 'laws.FnExactCountBest', WHERE WHAT IT READS IS OF BULK AT MOST 1048576: true; the input reads as it did. -/
def fnExactCountBestUptoRow : OpenClaim := { program := "ytekocnmcenmcnab", sum := "fc727a6c6216e807301f9832e60675a7534d6dc33981991346648b2396eb695b", func := "loop.example/g01103/laws.FnExactCountBest", spec := "fnExactCountBest", unfollowed := true, recurses := true, apart := false, narrowed := true }
def FnExactCountBestUptoSaid : Prop := fnExactCountBestUptoRow.holds Try.pinned (OpenSpec.upto fnExactCountBestSpec)

/-- 'laws.FnExactExchangeGain', WHERE WHAT IT READS IS OF BULK AT MOST 1048576: true; the input reads as it did. -/
def fnExactExchangeGainUptoRow : OpenClaim := { program := "ytekocnmcenmcnab", sum := "fc727a6c6216e807301f9832e60675a7534d6dc33981991346648b2396eb695b", func := "loop.example/g01103/laws.FnExactExchangeGain", spec := "fnExactExchangeGain", unfollowed := true, recurses := true, apart := false, narrowed := true }
def FnExactExchangeGainUptoSaid : Prop := fnExactExchangeGainUptoRow.holds Try.pinned (OpenSpec.upto fnExactExchangeGainSpec)

/-- 'laws.FnExactNextExchange', WHERE WHAT IT READS IS OF BULK AT MOST 1048576: true; the input reads as it did. -/
def fnExactNextExchangeUptoRow : OpenClaim := { program := "ytekocnmcenmcnab", sum := "fc727a6c6216e807301f9832e60675a7534d6dc33981991346648b2396eb695b", func := "loop.example/g01103/laws.FnExactNextExchange", spec := "fnExactNextExchange", unfollowed := true, recurses := true, apart := false, narrowed := true }
def FnExactNextExchangeUptoSaid : Prop := fnExactNextExchangeUptoRow.holds Try.pinned (OpenSpec.upto fnExactNextExchangeSpec)

/-- 'laws.FnExactExchangeDown', WHERE WHAT IT READS IS OF BULK AT MOST 1048576: true; the input reads as it did. -/
def fnExactExchangeDownUptoRow : OpenClaim := { program := "ytekocnmcenmcnab", sum := "fc727a6c6216e807301f9832e60675a7534d6dc33981991346648b2396eb695b", func := "loop.example/g01103/laws.FnExactExchangeDown", spec := "fnExactExchangeDown", unfollowed := true, recurses := true, apart := false, narrowed := true }
def FnExactExchangeDownUptoSaid : Prop := fnExactExchangeDownUptoRow.holds Try.pinned (OpenSpec.upto fnExactExchangeDownSpec)

/-- 'laws.FnExactInsertJob', WHERE WHAT IT READS IS OF BULK AT MOST 1048576: true; the input reads as it did. -/
def fnExactInsertJobUptoRow : OpenClaim := { program := "ytekocnmcenmcnab", sum := "fc727a6c6216e807301f9832e60675a7534d6dc33981991346648b2396eb695b", func := "loop.example/g01103/laws.FnExactInsertJob", spec := "fnExactInsertJob", inPlace := ["slices.overlaps[int]"], apart := false, narrowed := true }
def FnExactInsertJobUptoSaid : Prop := fnExactInsertJobUptoRow.holds Try.pinned (OpenSpec.upto fnExactInsertJobSpec)

/-- 'laws.FnExactMirrorJobs', WHERE WHAT IT READS IS OF BULK AT MOST 1048576: true; the input reads as it did. -/
def fnExactMirrorJobsUptoRow : OpenClaim := { program := "ytekocnmcenmcnab", sum := "fc727a6c6216e807301f9832e60675a7534d6dc33981991346648b2396eb695b", func := "loop.example/g01103/laws.FnExactMirrorJobs", spec := "fnExactMirrorJobs", unfollowed := true, recurses := true, apart := false, narrowed := true }
def FnExactMirrorJobsUptoSaid : Prop := fnExactMirrorJobsUptoRow.holds Try.pinned (OpenSpec.upto fnExactMirrorJobsSpec)

end Rows
end Go.Proofs.Ytekocnmcenmcnab
