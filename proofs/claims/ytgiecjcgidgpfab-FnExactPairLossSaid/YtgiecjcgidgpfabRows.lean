/-
  No cell of these rows narrows 'for every input' (looked for: loops, veiled, ifaces, maps, wideKeys, modest, calm, conditions, laid).
  DERIVED. THE GIVEN ROWS OF THIS SEAT. 12 by the template 'for every input the law returns true; each argument reads behind the call as it read before'; 0 by the template 'total and deterministic' (their statements: YtgiecjcgidgpfabTotals.lean).
  GIVEN WITH THE SEED: the statements are not yours to turn. If you find one false, say at which input.
  Laid BY PROGRAM, IN A SANDBOX (cutbox-rows.mjs): the forced cells as the released guide's own fill.sh prints them over the translation 0921b4428f5d40db… (all of the seat's roots in one cut). By AI agents, Wed Nov 11 2026. No macro, syntax, notation, axiom, sorry.
-/
import Derived.Test.YtgiecjcgidgpfabChecked
import GoSem.Claim
import GoSem.ClaimJoined
import GoSem.ClaimMapViews
import Derived.JoinedTies
import Derived.KernelRfl
namespace Go.Proofs.Ytgiecjcgidgpfab
/- THE CELL 'sum', in the pinned program and in every row, IS THE sha256 OF THE DUMP (.gsa) THAT YtgiecjcgidgpfabProg.lean LOADS. Nothing in Lean hashes anything: it is a label: what it is worth is what the hold of that sum in a sandbox is worth. -/
noncomputable def Try.pinned : Pinned := { name := "ytgiecjcgidgpfab", sum := "0921b4428f5d40dba4a323dc5c4ccb43afbc6c2baf94a3cb50c74097e2e63474", checked := Try.checked }
namespace Rows
def none {H : Type} : Left H := { results := [], args := [] }

/-- 'laws.FnExactIsPlain': WHATEVER THE INPUT: true; the input reads as it did. -/
def fnExactIsPlainSpec : ChangeSpec := { name := "fnExactIsPlain", fn := fun _ => fun
  | [d] => { results := [.lit (.bool true)], args := [d] }
  | _ => none }
def fnExactIsPlainRow : OpenClaim := { program := "ytgiecjcgidgpfab", sum := "0921b4428f5d40dba4a323dc5c4ccb43afbc6c2baf94a3cb50c74097e2e63474", func := "loop.example/g01103/laws.FnExactIsPlain", spec := "fnExactIsPlain", unfollowed := true, recurses := true, apart := false }
def FnExactIsPlainSaid : Prop := fnExactIsPlainRow.holds Try.pinned (OpenSpec.ofChange fnExactIsPlainSpec)

/-- ITS FALSE NEIGHBOUR: 'it returns false'. Refute it at one input. -/
def fnExactIsPlainWrong : ChangeSpec := { name := "fnExactIsPlain", fn := fun _ => fun
  | [d] => { results := [.lit (.bool false)], args := [d] }
  | _ => none }
def FnExactIsPlainWrongFalsely : Prop := fnExactIsPlainRow.holds Try.pinned (OpenSpec.ofChange fnExactIsPlainWrong)

/-- 'laws.FnExactRuleDifference': WHATEVER THE INPUT: true; the input reads as it did. -/
def fnExactRuleDifferenceSpec : ChangeSpec := { name := "fnExactRuleDifference", fn := fun _ => fun
  | [d1, d2, d3, d4] => { results := [.lit (.bool true)], args := [d1, d2, d3, d4] }
  | _ => none }
def fnExactRuleDifferenceRow : OpenClaim := { program := "ytgiecjcgidgpfab", sum := "0921b4428f5d40dba4a323dc5c4ccb43afbc6c2baf94a3cb50c74097e2e63474", func := "loop.example/g01103/laws.FnExactRuleDifference", spec := "fnExactRuleDifference", unfollowed := true, recurses := true, apart := false }
def FnExactRuleDifferenceSaid : Prop := fnExactRuleDifferenceRow.holds Try.pinned (OpenSpec.ofChange fnExactRuleDifferenceSpec)

/-- ITS FALSE NEIGHBOUR: 'it returns false'. Refute it at one input. -/
def fnExactRuleDifferenceWrong : ChangeSpec := { name := "fnExactRuleDifference", fn := fun _ => fun
  | [d1, d2, d3, d4] => { results := [.lit (.bool false)], args := [d1, d2, d3, d4] }
  | _ => none }
def FnExactRuleDifferenceWrongFalsely : Prop := fnExactRuleDifferenceRow.holds Try.pinned (OpenSpec.ofChange fnExactRuleDifferenceWrong)

/-- 'laws.FnExactRuledOrder': WHATEVER THE INPUT: true; the input reads as it did. -/
def fnExactRuledOrderSpec : ChangeSpec := { name := "fnExactRuledOrder", fn := fun _ => fun
  | [d1, d2] => { results := [.lit (.bool true)], args := [d1, d2] }
  | _ => none }
def fnExactRuledOrderRow : OpenClaim := { program := "ytgiecjcgidgpfab", sum := "0921b4428f5d40dba4a323dc5c4ccb43afbc6c2baf94a3cb50c74097e2e63474", func := "loop.example/g01103/laws.FnExactRuledOrder", spec := "fnExactRuledOrder", unfollowed := true, recurses := true, apart := false }
def FnExactRuledOrderSaid : Prop := fnExactRuledOrderRow.holds Try.pinned (OpenSpec.ofChange fnExactRuledOrderSpec)

/-- ITS FALSE NEIGHBOUR: 'it returns false'. Refute it at one input. -/
def fnExactRuledOrderWrong : ChangeSpec := { name := "fnExactRuledOrder", fn := fun _ => fun
  | [d1, d2] => { results := [.lit (.bool false)], args := [d1, d2] }
  | _ => none }
def FnExactRuledOrderWrongFalsely : Prop := fnExactRuledOrderRow.holds Try.pinned (OpenSpec.ofChange fnExactRuledOrderWrong)

/-- 'laws.FnExactIsRuledOrder': WHATEVER THE INPUT: true; the input reads as it did. -/
def fnExactIsRuledOrderSpec : ChangeSpec := { name := "fnExactIsRuledOrder", fn := fun _ => fun
  | [d1, d2, d3] => { results := [.lit (.bool true)], args := [d1, d2, d3] }
  | _ => none }
def fnExactIsRuledOrderRow : OpenClaim := { program := "ytgiecjcgidgpfab", sum := "0921b4428f5d40dba4a323dc5c4ccb43afbc6c2baf94a3cb50c74097e2e63474", func := "loop.example/g01103/laws.FnExactIsRuledOrder", spec := "fnExactIsRuledOrder", unfollowed := true, recurses := true, apart := false }
def FnExactIsRuledOrderSaid : Prop := fnExactIsRuledOrderRow.holds Try.pinned (OpenSpec.ofChange fnExactIsRuledOrderSpec)

/-- ITS FALSE NEIGHBOUR: 'it returns false'. Refute it at one input. -/
def fnExactIsRuledOrderWrong : ChangeSpec := { name := "fnExactIsRuledOrder", fn := fun _ => fun
  | [d1, d2, d3] => { results := [.lit (.bool false)], args := [d1, d2, d3] }
  | _ => none }
def FnExactIsRuledOrderWrongFalsely : Prop := fnExactIsRuledOrderRow.holds Try.pinned (OpenSpec.ofChange fnExactIsRuledOrderWrong)

/-- 'laws.FnExactTieGroups': WHATEVER THE INPUT: true; the input reads as it did. -/
def fnExactTieGroupsSpec : ChangeSpec := { name := "fnExactTieGroups", fn := fun _ => fun
  | [d1, d2] => { results := [.lit (.bool true)], args := [d1, d2] }
  | _ => none }
def fnExactTieGroupsRow : OpenClaim := { program := "ytgiecjcgidgpfab", sum := "0921b4428f5d40dba4a323dc5c4ccb43afbc6c2baf94a3cb50c74097e2e63474", func := "loop.example/g01103/laws.FnExactTieGroups", spec := "fnExactTieGroups", unfollowed := true, recurses := true, apart := false }
def FnExactTieGroupsSaid : Prop := fnExactTieGroupsRow.holds Try.pinned (OpenSpec.ofChange fnExactTieGroupsSpec)

/-- ITS FALSE NEIGHBOUR: 'it returns false'. Refute it at one input. -/
def fnExactTieGroupsWrong : ChangeSpec := { name := "fnExactTieGroups", fn := fun _ => fun
  | [d1, d2] => { results := [.lit (.bool false)], args := [d1, d2] }
  | _ => none }
def FnExactTieGroupsWrongFalsely : Prop := fnExactTieGroupsRow.holds Try.pinned (OpenSpec.ofChange fnExactTieGroupsWrong)

/-- 'laws.FnExactCountRuled': WHATEVER THE INPUT: true; the input reads as it did. -/
def fnExactCountRuledSpec : ChangeSpec := { name := "fnExactCountRuled", fn := fun _ => fun
  | [d1, d2] => { results := [.lit (.bool true)], args := [d1, d2] }
  | _ => none }
def fnExactCountRuledRow : OpenClaim := { program := "ytgiecjcgidgpfab", sum := "0921b4428f5d40dba4a323dc5c4ccb43afbc6c2baf94a3cb50c74097e2e63474", func := "loop.example/g01103/laws.FnExactCountRuled", spec := "fnExactCountRuled", unfollowed := true, recurses := true, apart := false }
def FnExactCountRuledSaid : Prop := fnExactCountRuledRow.holds Try.pinned (OpenSpec.ofChange fnExactCountRuledSpec)

/-- ITS FALSE NEIGHBOUR: 'it returns false'. Refute it at one input. -/
def fnExactCountRuledWrong : ChangeSpec := { name := "fnExactCountRuled", fn := fun _ => fun
  | [d1, d2] => { results := [.lit (.bool false)], args := [d1, d2] }
  | _ => none }
def FnExactCountRuledWrongFalsely : Prop := fnExactCountRuledRow.holds Try.pinned (OpenSpec.ofChange fnExactCountRuledWrong)

/-- 'laws.FnExactInversionsOf': WHATEVER THE INPUT: true; the input reads as it did. -/
def fnExactInversionsOfSpec : ChangeSpec := { name := "fnExactInversionsOf", fn := fun _ => fun
  | [d1, d2, d3] => { results := [.lit (.bool true)], args := [d1, d2, d3] }
  | _ => none }
def fnExactInversionsOfRow : OpenClaim := { program := "ytgiecjcgidgpfab", sum := "0921b4428f5d40dba4a323dc5c4ccb43afbc6c2baf94a3cb50c74097e2e63474", func := "loop.example/g01103/laws.FnExactInversionsOf", spec := "fnExactInversionsOf", unfollowed := true, recurses := true, apart := false }
def FnExactInversionsOfSaid : Prop := fnExactInversionsOfRow.holds Try.pinned (OpenSpec.ofChange fnExactInversionsOfSpec)

/-- ITS FALSE NEIGHBOUR: 'it returns false'. Refute it at one input. -/
def fnExactInversionsOfWrong : ChangeSpec := { name := "fnExactInversionsOf", fn := fun _ => fun
  | [d1, d2, d3] => { results := [.lit (.bool false)], args := [d1, d2, d3] }
  | _ => none }
def FnExactInversionsOfWrongFalsely : Prop := fnExactInversionsOfRow.holds Try.pinned (OpenSpec.ofChange fnExactInversionsOfWrong)

/-- 'laws.FnExactPairLoss': WHATEVER THE INPUT: true; the input reads as it did. -/
def fnExactPairLossSpec : ChangeSpec := { name := "fnExactPairLoss", fn := fun _ => fun
  | [d1, d2] => { results := [.lit (.bool true)], args := [d1, d2] }
  | _ => none }
def fnExactPairLossRow : OpenClaim := { program := "ytgiecjcgidgpfab", sum := "0921b4428f5d40dba4a323dc5c4ccb43afbc6c2baf94a3cb50c74097e2e63474", func := "loop.example/g01103/laws.FnExactPairLoss", spec := "fnExactPairLoss", unfollowed := true, recurses := true, apart := false }
def FnExactPairLossSaid : Prop := fnExactPairLossRow.holds Try.pinned (OpenSpec.ofChange fnExactPairLossSpec)

/-- ITS FALSE NEIGHBOUR: 'it returns false'. Refute it at one input. -/
def fnExactPairLossWrong : ChangeSpec := { name := "fnExactPairLoss", fn := fun _ => fun
  | [d1, d2] => { results := [.lit (.bool false)], args := [d1, d2] }
  | _ => none }
def FnExactPairLossWrongFalsely : Prop := fnExactPairLossRow.holds Try.pinned (OpenSpec.ofChange fnExactPairLossWrong)

/-- 'laws.FnExactSortingExchanges': WHATEVER THE INPUT: true; the input reads as it did. -/
def fnExactSortingExchangesSpec : ChangeSpec := { name := "fnExactSortingExchanges", fn := fun _ => fun
  | [d1, d2, d3] => { results := [.lit (.bool true)], args := [d1, d2, d3] }
  | _ => none }
def fnExactSortingExchangesRow : OpenClaim := { program := "ytgiecjcgidgpfab", sum := "0921b4428f5d40dba4a323dc5c4ccb43afbc6c2baf94a3cb50c74097e2e63474", func := "loop.example/g01103/laws.FnExactSortingExchanges", spec := "fnExactSortingExchanges", unfollowed := true, recurses := true, apart := false }
def FnExactSortingExchangesSaid : Prop := fnExactSortingExchangesRow.holds Try.pinned (OpenSpec.ofChange fnExactSortingExchangesSpec)

/-- ITS FALSE NEIGHBOUR: 'it returns false'. Refute it at one input. -/
def fnExactSortingExchangesWrong : ChangeSpec := { name := "fnExactSortingExchanges", fn := fun _ => fun
  | [d1, d2, d3] => { results := [.lit (.bool false)], args := [d1, d2, d3] }
  | _ => none }
def FnExactSortingExchangesWrongFalsely : Prop := fnExactSortingExchangesRow.holds Try.pinned (OpenSpec.ofChange fnExactSortingExchangesWrong)

/-- 'laws.FnExactSlacksOf': WHATEVER THE INPUT: true; the input reads as it did. -/
def fnExactSlacksOfSpec : ChangeSpec := { name := "fnExactSlacksOf", fn := fun _ => fun
  | [d1, d2, d3] => { results := [.lit (.bool true)], args := [d1, d2, d3] }
  | _ => none }
def fnExactSlacksOfRow : OpenClaim := { program := "ytgiecjcgidgpfab", sum := "0921b4428f5d40dba4a323dc5c4ccb43afbc6c2baf94a3cb50c74097e2e63474", func := "loop.example/g01103/laws.FnExactSlacksOf", spec := "fnExactSlacksOf", unfollowed := true, recurses := true, apart := false }
def FnExactSlacksOfSaid : Prop := fnExactSlacksOfRow.holds Try.pinned (OpenSpec.ofChange fnExactSlacksOfSpec)

/-- ITS FALSE NEIGHBOUR: 'it returns false'. Refute it at one input. -/
def fnExactSlacksOfWrong : ChangeSpec := { name := "fnExactSlacksOf", fn := fun _ => fun
  | [d1, d2, d3] => { results := [.lit (.bool false)], args := [d1, d2, d3] }
  | _ => none }
def FnExactSlacksOfWrongFalsely : Prop := fnExactSlacksOfRow.holds Try.pinned (OpenSpec.ofChange fnExactSlacksOfWrong)

/-- 'laws.FnExactStretchedJobs': WHATEVER THE INPUT: true; the input reads as it did. -/
def fnExactStretchedJobsSpec : ChangeSpec := { name := "fnExactStretchedJobs", fn := fun _ => fun
  | [d1, d2] => { results := [.lit (.bool true)], args := [d1, d2] }
  | _ => none }
def fnExactStretchedJobsRow : OpenClaim := { program := "ytgiecjcgidgpfab", sum := "0921b4428f5d40dba4a323dc5c4ccb43afbc6c2baf94a3cb50c74097e2e63474", func := "loop.example/g01103/laws.FnExactStretchedJobs", spec := "fnExactStretchedJobs", unfollowed := true, recurses := true, apart := false }
def FnExactStretchedJobsSaid : Prop := fnExactStretchedJobsRow.holds Try.pinned (OpenSpec.ofChange fnExactStretchedJobsSpec)

/-- ITS FALSE NEIGHBOUR: 'it returns false'. Refute it at one input. -/
def fnExactStretchedJobsWrong : ChangeSpec := { name := "fnExactStretchedJobs", fn := fun _ => fun
  | [d1, d2] => { results := [.lit (.bool false)], args := [d1, d2] }
  | _ => none }
def FnExactStretchedJobsWrongFalsely : Prop := fnExactStretchedJobsRow.holds Try.pinned (OpenSpec.ofChange fnExactStretchedJobsWrong)

/-- 'laws.FnExactOnTime': WHATEVER THE INPUT: true; the input reads as it did. -/
def fnExactOnTimeSpec : ChangeSpec := { name := "fnExactOnTime", fn := fun _ => fun
  | [d1, d2] => { results := [.lit (.bool true)], args := [d1, d2] }
  | _ => none }
def fnExactOnTimeRow : OpenClaim := { program := "ytgiecjcgidgpfab", sum := "0921b4428f5d40dba4a323dc5c4ccb43afbc6c2baf94a3cb50c74097e2e63474", func := "loop.example/g01103/laws.FnExactOnTime", spec := "fnExactOnTime", unfollowed := true, recurses := true, apart := false }
def FnExactOnTimeSaid : Prop := fnExactOnTimeRow.holds Try.pinned (OpenSpec.ofChange fnExactOnTimeSpec)

/-- ITS FALSE NEIGHBOUR: 'it returns false'. Refute it at one input. -/
def fnExactOnTimeWrong : ChangeSpec := { name := "fnExactOnTime", fn := fun _ => fun
  | [d1, d2] => { results := [.lit (.bool false)], args := [d1, d2] }
  | _ => none }
def FnExactOnTimeWrongFalsely : Prop := fnExactOnTimeRow.holds Try.pinned (OpenSpec.ofChange fnExactOnTimeWrong)

/- THE SECOND FORM. 'bulk': how many values and letters a reading holds, each counted each time it is reached (what is shared counts as often as it is met; a slice's spare places count too). A statement '..UptoSaid' is the law's where the arguments, and the package variables that the reading takes, are together of bulk at most 1048576: NARROWER than '..Said'. Prove '..Said' where nothing that the law and all that it calls make is longer than what came in: it says more and counts as full. Else prove '..UptoSaid'. A law counts once. -/
mutual
def uptoBulk {H : Type} : DataW H → Nat
  | .lit (.string bytes) => bytes.length + 1
  | .lit _ => 1
  | .nil => 1
  | .ptr d => uptoBulk d + 1
  | .slice elems spare => uptoBulkAll elems + uptoBulkAll spare + 1
  | .agg parts => uptoBulkAll parts + 1
  | .iface _ d => uptoBulk d + 1
  | .map entries => uptoBulkEntries entries + 1
  | .held _ => 1
def uptoBulkAll {H : Type} : List (DataW H) → Nat
  | [] => 0
  | d :: r => uptoBulk d + uptoBulkAll r
def uptoBulkEntries {H : Type} : List (Lit × DataW H) → Nat
  | [] => 0
  | x :: r => uptoBulkEntry x + uptoBulkEntries r
def uptoBulkEntry {H : Type} : Lit × DataW H → Nat
  | (.string bytes, d) => bytes.length + uptoBulk d + 1
  | (_, d) => uptoBulk d + 1
 end
def uptoSmall : (H : Type) → List (DataW H) → Bool := fun _ ds => decide (uptoBulkAll ds ≤ 1048576)
def OpenSpec.upto (s : _root_.Go.ChangeSpec) : _root_.Go.OpenSpec := { _root_.Go.OpenSpec.ofChange s with cond := some uptoSmall }

/-- 'laws.FnExactIsPlain', WHERE WHAT IT READS IS OF BULK AT MOST 1048576: true; the input reads as it did. -/
def fnExactIsPlainUptoRow : OpenClaim := { program := "ytgiecjcgidgpfab", sum := "0921b4428f5d40dba4a323dc5c4ccb43afbc6c2baf94a3cb50c74097e2e63474", func := "loop.example/g01103/laws.FnExactIsPlain", spec := "fnExactIsPlain", unfollowed := true, recurses := true, apart := false, narrowed := true }
def FnExactIsPlainUptoSaid : Prop := fnExactIsPlainUptoRow.holds Try.pinned (OpenSpec.upto fnExactIsPlainSpec)

/-- 'laws.FnExactRuleDifference', WHERE WHAT IT READS IS OF BULK AT MOST 1048576: true; the input reads as it did. -/
def fnExactRuleDifferenceUptoRow : OpenClaim := { program := "ytgiecjcgidgpfab", sum := "0921b4428f5d40dba4a323dc5c4ccb43afbc6c2baf94a3cb50c74097e2e63474", func := "loop.example/g01103/laws.FnExactRuleDifference", spec := "fnExactRuleDifference", unfollowed := true, recurses := true, apart := false, narrowed := true }
def FnExactRuleDifferenceUptoSaid : Prop := fnExactRuleDifferenceUptoRow.holds Try.pinned (OpenSpec.upto fnExactRuleDifferenceSpec)

/-- 'laws.FnExactRuledOrder', WHERE WHAT IT READS IS OF BULK AT MOST 1048576: true; the input reads as it did. -/
def fnExactRuledOrderUptoRow : OpenClaim := { program := "ytgiecjcgidgpfab", sum := "0921b4428f5d40dba4a323dc5c4ccb43afbc6c2baf94a3cb50c74097e2e63474", func := "loop.example/g01103/laws.FnExactRuledOrder", spec := "fnExactRuledOrder", unfollowed := true, recurses := true, apart := false, narrowed := true }
def FnExactRuledOrderUptoSaid : Prop := fnExactRuledOrderUptoRow.holds Try.pinned (OpenSpec.upto fnExactRuledOrderSpec)

/-- 'laws.FnExactIsRuledOrder', WHERE WHAT IT READS IS OF BULK AT MOST 1048576: true; the input reads as it did. -/
def fnExactIsRuledOrderUptoRow : OpenClaim := { program := "ytgiecjcgidgpfab", sum := "0921b4428f5d40dba4a323dc5c4ccb43afbc6c2baf94a3cb50c74097e2e63474", func := "loop.example/g01103/laws.FnExactIsRuledOrder", spec := "fnExactIsRuledOrder", unfollowed := true, recurses := true, apart := false, narrowed := true }
def FnExactIsRuledOrderUptoSaid : Prop := fnExactIsRuledOrderUptoRow.holds Try.pinned (OpenSpec.upto fnExactIsRuledOrderSpec)

/-- 'laws.FnExactTieGroups', WHERE WHAT IT READS IS OF BULK AT MOST 1048576: true; the input reads as it did. -/
def fnExactTieGroupsUptoRow : OpenClaim := { program := "ytgiecjcgidgpfab", sum := "0921b4428f5d40dba4a323dc5c4ccb43afbc6c2baf94a3cb50c74097e2e63474", func := "loop.example/g01103/laws.FnExactTieGroups", spec := "fnExactTieGroups", unfollowed := true, recurses := true, apart := false, narrowed := true }
def FnExactTieGroupsUptoSaid : Prop := fnExactTieGroupsUptoRow.holds Try.pinned (OpenSpec.upto fnExactTieGroupsSpec)

/-- 'laws.FnExactCountRuled', WHERE WHAT IT READS IS OF BULK AT MOST 1048576: true; the input reads as it did. -/
def fnExactCountRuledUptoRow : OpenClaim := { program := "ytgiecjcgidgpfab", sum := "0921b4428f5d40dba4a323dc5c4ccb43afbc6c2baf94a3cb50c74097e2e63474", func := "loop.example/g01103/laws.FnExactCountRuled", spec := "fnExactCountRuled", unfollowed := true, recurses := true, apart := false, narrowed := true }
def FnExactCountRuledUptoSaid : Prop := fnExactCountRuledUptoRow.holds Try.pinned (OpenSpec.upto fnExactCountRuledSpec)

/-- 'laws.FnExactInversionsOf', WHERE WHAT IT READS IS OF BULK AT MOST 1048576: true; the input reads as it did. -/
def fnExactInversionsOfUptoRow : OpenClaim := { program := "ytgiecjcgidgpfab", sum := "0921b4428f5d40dba4a323dc5c4ccb43afbc6c2baf94a3cb50c74097e2e63474", func := "loop.example/g01103/laws.FnExactInversionsOf", spec := "fnExactInversionsOf", unfollowed := true, recurses := true, apart := false, narrowed := true }
def FnExactInversionsOfUptoSaid : Prop := fnExactInversionsOfUptoRow.holds Try.pinned (OpenSpec.upto fnExactInversionsOfSpec)

/-- 'laws.FnExactPairLoss', WHERE WHAT IT READS IS OF BULK AT MOST 1048576: true; the input reads as it did. -/
def fnExactPairLossUptoRow : OpenClaim := { program := "ytgiecjcgidgpfab", sum := "0921b4428f5d40dba4a323dc5c4ccb43afbc6c2baf94a3cb50c74097e2e63474", func := "loop.example/g01103/laws.FnExactPairLoss", spec := "fnExactPairLoss", unfollowed := true, recurses := true, apart := false, narrowed := true }
def FnExactPairLossUptoSaid : Prop := fnExactPairLossUptoRow.holds Try.pinned (OpenSpec.upto fnExactPairLossSpec)

/-- 'laws.FnExactSortingExchanges', WHERE WHAT IT READS IS OF BULK AT MOST 1048576: true; the input reads as it did. -/
def fnExactSortingExchangesUptoRow : OpenClaim := { program := "ytgiecjcgidgpfab", sum := "0921b4428f5d40dba4a323dc5c4ccb43afbc6c2baf94a3cb50c74097e2e63474", func := "loop.example/g01103/laws.FnExactSortingExchanges", spec := "fnExactSortingExchanges", unfollowed := true, recurses := true, apart := false, narrowed := true }
def FnExactSortingExchangesUptoSaid : Prop := fnExactSortingExchangesUptoRow.holds Try.pinned (OpenSpec.upto fnExactSortingExchangesSpec)

/-- 'laws.FnExactSlacksOf', WHERE WHAT IT READS IS OF BULK AT MOST 1048576: true; the input reads as it did. -/
def fnExactSlacksOfUptoRow : OpenClaim := { program := "ytgiecjcgidgpfab", sum := "0921b4428f5d40dba4a323dc5c4ccb43afbc6c2baf94a3cb50c74097e2e63474", func := "loop.example/g01103/laws.FnExactSlacksOf", spec := "fnExactSlacksOf", unfollowed := true, recurses := true, apart := false, narrowed := true }
def FnExactSlacksOfUptoSaid : Prop := fnExactSlacksOfUptoRow.holds Try.pinned (OpenSpec.upto fnExactSlacksOfSpec)

/-- 'laws.FnExactStretchedJobs', WHERE WHAT IT READS IS OF BULK AT MOST 1048576: true; the input reads as it did. -/
def fnExactStretchedJobsUptoRow : OpenClaim := { program := "ytgiecjcgidgpfab", sum := "0921b4428f5d40dba4a323dc5c4ccb43afbc6c2baf94a3cb50c74097e2e63474", func := "loop.example/g01103/laws.FnExactStretchedJobs", spec := "fnExactStretchedJobs", unfollowed := true, recurses := true, apart := false, narrowed := true }
def FnExactStretchedJobsUptoSaid : Prop := fnExactStretchedJobsUptoRow.holds Try.pinned (OpenSpec.upto fnExactStretchedJobsSpec)

/-- 'laws.FnExactOnTime', WHERE WHAT IT READS IS OF BULK AT MOST 1048576: true; the input reads as it did. -/
def fnExactOnTimeUptoRow : OpenClaim := { program := "ytgiecjcgidgpfab", sum := "0921b4428f5d40dba4a323dc5c4ccb43afbc6c2baf94a3cb50c74097e2e63474", func := "loop.example/g01103/laws.FnExactOnTime", spec := "fnExactOnTime", unfollowed := true, recurses := true, apart := false, narrowed := true }
def FnExactOnTimeUptoSaid : Prop := fnExactOnTimeUptoRow.holds Try.pinned (OpenSpec.upto fnExactOnTimeSpec)

end Rows
end Go.Proofs.Ytgiecjcgidgpfab
