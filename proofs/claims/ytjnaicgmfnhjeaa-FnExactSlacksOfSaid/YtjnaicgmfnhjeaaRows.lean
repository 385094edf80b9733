/-
  No cell of these rows narrows 'for every input' (looked for: loops, veiled, ifaces, maps, wideKeys, modest, calm, conditions, laid).
  DERIVED. THE GIVEN ROWS OF THIS SEAT. 14 by the template 'for every input the law returns true; each argument reads behind the call as it read before'; 0 by the template 'total and deterministic' (their statements: YtjnaicgmfnhjeaaTotals.lean).
  GIVEN WITH THE SEED: the statements are not yours to turn. If you find one false, say at which input.
  Laid BY PROGRAM, IN A SANDBOX (cutbox-rows.mjs): the forced cells as the released guide's own fill.sh prints them over the translation ef2f6f3a7f84cef5… (all of the seat's roots in one cut). By AI agents, Wed Nov 11 2026. No macro, syntax, notation, axiom, sorry.
-/
import Derived.Test.YtjnaicgmfnhjeaaChecked
import GoSem.Claim
import GoSem.ClaimJoined
import GoSem.ClaimMapViews
import Derived.JoinedTies
import Derived.KernelRfl
namespace Go.Proofs.Ytjnaicgmfnhjeaa
/- THE CELL 'sum', in the pinned program and in every row, IS THE sha256 OF THE DUMP (.gsa) THAT YtjnaicgmfnhjeaaProg.lean LOADS. Nothing in Lean hashes anything: it is a label: what it is worth is what the hold of that sum in a sandbox is worth. -/
noncomputable def Try.pinned : Pinned := { name := "ytjnaicgmfnhjeaa", sum := "ef2f6f3a7f84cef56bf9a8643775f10484f739b57ae123ec563999cf6a4cd6b6", checked := Try.checked }
namespace Rows
def none {H : Type} : Left H := { results := [], args := [] }

/-- 'laws.FnExactBlocksOf': WHATEVER THE INPUT: true; the input reads as it did. -/
def fnExactBlocksOfSpec : ChangeSpec := { name := "fnExactBlocksOf", fn := fun _ => fun
  | [d1, d2] => { results := [.lit (.bool true)], args := [d1, d2] }
  | _ => none }
def fnExactBlocksOfRow : OpenClaim := { program := "ytjnaicgmfnhjeaa", sum := "ef2f6f3a7f84cef56bf9a8643775f10484f739b57ae123ec563999cf6a4cd6b6", func := "loop.example/g01103/laws.FnExactBlocksOf", spec := "fnExactBlocksOf", unfollowed := true, recurses := true, apart := false }
def FnExactBlocksOfSaid : Prop := fnExactBlocksOfRow.holds Try.pinned (OpenSpec.ofChange fnExactBlocksOfSpec)

/-- ITS FALSE NEIGHBOUR: 'it returns false'. Refute it at one input. -/
def fnExactBlocksOfWrong : ChangeSpec := { name := "fnExactBlocksOf", fn := fun _ => fun
  | [d1, d2] => { results := [.lit (.bool false)], args := [d1, d2] }
  | _ => none }
def FnExactBlocksOfWrongFalsely : Prop := fnExactBlocksOfRow.holds Try.pinned (OpenSpec.ofChange fnExactBlocksOfWrong)

/-- 'laws.FnExactTieGroups': WHATEVER THE INPUT: true; the input reads as it did. -/
def fnExactTieGroupsSpec : ChangeSpec := { name := "fnExactTieGroups", fn := fun _ => fun
  | [d1, d2] => { results := [.lit (.bool true)], args := [d1, d2] }
  | _ => none }
def fnExactTieGroupsRow : OpenClaim := { program := "ytjnaicgmfnhjeaa", sum := "ef2f6f3a7f84cef56bf9a8643775f10484f739b57ae123ec563999cf6a4cd6b6", func := "loop.example/g01103/laws.FnExactTieGroups", spec := "fnExactTieGroups", unfollowed := true, recurses := true, apart := false }
def FnExactTieGroupsSaid : Prop := fnExactTieGroupsRow.holds Try.pinned (OpenSpec.ofChange fnExactTieGroupsSpec)

/-- ITS FALSE NEIGHBOUR: 'it returns false'. Refute it at one input. -/
def fnExactTieGroupsWrong : ChangeSpec := { name := "fnExactTieGroups", fn := fun _ => fun
  | [d1, d2] => { results := [.lit (.bool false)], args := [d1, d2] }
  | _ => none }
def FnExactTieGroupsWrongFalsely : Prop := fnExactTieGroupsRow.holds Try.pinned (OpenSpec.ofChange fnExactTieGroupsWrong)

/-- 'laws.FnExactCountRuled': WHATEVER THE INPUT: true; the input reads as it did. -/
def fnExactCountRuledSpec : ChangeSpec := { name := "fnExactCountRuled", fn := fun _ => fun
  | [d1, d2] => { results := [.lit (.bool true)], args := [d1, d2] }
  | _ => none }
def fnExactCountRuledRow : OpenClaim := { program := "ytjnaicgmfnhjeaa", sum := "ef2f6f3a7f84cef56bf9a8643775f10484f739b57ae123ec563999cf6a4cd6b6", func := "loop.example/g01103/laws.FnExactCountRuled", spec := "fnExactCountRuled", unfollowed := true, recurses := true, apart := false }
def FnExactCountRuledSaid : Prop := fnExactCountRuledRow.holds Try.pinned (OpenSpec.ofChange fnExactCountRuledSpec)

/-- ITS FALSE NEIGHBOUR: 'it returns false'. Refute it at one input. -/
def fnExactCountRuledWrong : ChangeSpec := { name := "fnExactCountRuled", fn := fun _ => fun
  | [d1, d2] => { results := [.lit (.bool false)], args := [d1, d2] }
  | _ => none }
def FnExactCountRuledWrongFalsely : Prop := fnExactCountRuledRow.holds Try.pinned (OpenSpec.ofChange fnExactCountRuledWrong)

/-- 'laws.FnExactLateRule': WHATEVER THE INPUT: true; the input reads as it did. -/
def fnExactLateRuleSpec : ChangeSpec := { name := "fnExactLateRule", fn := fun _ => fun
  | [d] => { results := [.lit (.bool true)], args := [d] }
  | _ => none }
def fnExactLateRuleRow : OpenClaim := { program := "ytjnaicgmfnhjeaa", sum := "ef2f6f3a7f84cef56bf9a8643775f10484f739b57ae123ec563999cf6a4cd6b6", func := "loop.example/g01103/laws.FnExactLateRule", spec := "fnExactLateRule", unfollowed := true, recurses := true, apart := false }
def FnExactLateRuleSaid : Prop := fnExactLateRuleRow.holds Try.pinned (OpenSpec.ofChange fnExactLateRuleSpec)

/-- ITS FALSE NEIGHBOUR: 'it returns false'. Refute it at one input. -/
def fnExactLateRuleWrong : ChangeSpec := { name := "fnExactLateRule", fn := fun _ => fun
  | [d] => { results := [.lit (.bool false)], args := [d] }
  | _ => none }
def FnExactLateRuleWrongFalsely : Prop := fnExactLateRuleRow.holds Try.pinned (OpenSpec.ofChange fnExactLateRuleWrong)

/-- 'laws.FnExactLateSteps': WHATEVER THE INPUT: true; the input reads as it did. -/
def fnExactLateStepsSpec : ChangeSpec := { name := "fnExactLateSteps", fn := fun _ => fun
  | [d] => { results := [.lit (.bool true)], args := [d] }
  | _ => none }
def fnExactLateStepsRow : OpenClaim := { program := "ytjnaicgmfnhjeaa", sum := "ef2f6f3a7f84cef56bf9a8643775f10484f739b57ae123ec563999cf6a4cd6b6", func := "loop.example/g01103/laws.FnExactLateSteps", spec := "fnExactLateSteps", unfollowed := true, recurses := true, apart := false }
def FnExactLateStepsSaid : Prop := fnExactLateStepsRow.holds Try.pinned (OpenSpec.ofChange fnExactLateStepsSpec)

/-- ITS FALSE NEIGHBOUR: 'it returns false'. Refute it at one input. -/
def fnExactLateStepsWrong : ChangeSpec := { name := "fnExactLateSteps", fn := fun _ => fun
  | [d] => { results := [.lit (.bool false)], args := [d] }
  | _ => none }
def FnExactLateStepsWrongFalsely : Prop := fnExactLateStepsRow.holds Try.pinned (OpenSpec.ofChange fnExactLateStepsWrong)

/-- 'laws.FnExactOnTime': WHATEVER THE INPUT: true; the input reads as it did. -/
def fnExactOnTimeSpec : ChangeSpec := { name := "fnExactOnTime", fn := fun _ => fun
  | [d1, d2] => { results := [.lit (.bool true)], args := [d1, d2] }
  | _ => none }
def fnExactOnTimeRow : OpenClaim := { program := "ytjnaicgmfnhjeaa", sum := "ef2f6f3a7f84cef56bf9a8643775f10484f739b57ae123ec563999cf6a4cd6b6", func := "loop.example/g01103/laws.FnExactOnTime", spec := "fnExactOnTime", unfollowed := true, recurses := true, apart := false }
def FnExactOnTimeSaid : Prop := fnExactOnTimeRow.holds Try.pinned (OpenSpec.ofChange fnExactOnTimeSpec)

/-- ITS FALSE NEIGHBOUR: 'it returns false'. Refute it at one input. -/
def fnExactOnTimeWrong : ChangeSpec := { name := "fnExactOnTime", fn := fun _ => fun
  | [d1, d2] => { results := [.lit (.bool false)], args := [d1, d2] }
  | _ => none }
def FnExactOnTimeWrongFalsely : Prop := fnExactOnTimeRow.holds Try.pinned (OpenSpec.ofChange fnExactOnTimeWrong)

/-- 'laws.FnExactFewestLate': WHATEVER THE INPUT: true; the input reads as it did. -/
def fnExactFewestLateSpec : ChangeSpec := { name := "fnExactFewestLate", fn := fun _ => fun
  | [d] => { results := [.lit (.bool true)], args := [d] }
  | _ => none }
def fnExactFewestLateRow : OpenClaim := { program := "ytjnaicgmfnhjeaa", sum := "ef2f6f3a7f84cef56bf9a8643775f10484f739b57ae123ec563999cf6a4cd6b6", func := "loop.example/g01103/laws.FnExactFewestLate", spec := "fnExactFewestLate", unfollowed := true, recurses := true, apart := false }
def FnExactFewestLateSaid : Prop := fnExactFewestLateRow.holds Try.pinned (OpenSpec.ofChange fnExactFewestLateSpec)

/-- ITS FALSE NEIGHBOUR: 'it returns false'. Refute it at one input. -/
def fnExactFewestLateWrong : ChangeSpec := { name := "fnExactFewestLate", fn := fun _ => fun
  | [d] => { results := [.lit (.bool false)], args := [d] }
  | _ => none }
def FnExactFewestLateWrongFalsely : Prop := fnExactFewestLateRow.holds Try.pinned (OpenSpec.ofChange fnExactFewestLateWrong)

/-- 'laws.FnExactLeftAfter': WHATEVER THE INPUT: true; the input reads as it did. -/
def fnExactLeftAfterSpec : ChangeSpec := { name := "fnExactLeftAfter", fn := fun _ => fun
  | [d1, d2] => { results := [.lit (.bool true)], args := [d1, d2] }
  | _ => none }
def fnExactLeftAfterRow : OpenClaim := { program := "ytjnaicgmfnhjeaa", sum := "ef2f6f3a7f84cef56bf9a8643775f10484f739b57ae123ec563999cf6a4cd6b6", func := "loop.example/g01103/laws.FnExactLeftAfter", spec := "fnExactLeftAfter", unfollowed := true, recurses := true, apart := false }
def FnExactLeftAfterSaid : Prop := fnExactLeftAfterRow.holds Try.pinned (OpenSpec.ofChange fnExactLeftAfterSpec)

/-- ITS FALSE NEIGHBOUR: 'it returns false'. Refute it at one input. -/
def fnExactLeftAfterWrong : ChangeSpec := { name := "fnExactLeftAfter", fn := fun _ => fun
  | [d1, d2] => { results := [.lit (.bool false)], args := [d1, d2] }
  | _ => none }
def FnExactLeftAfterWrongFalsely : Prop := fnExactLeftAfterRow.holds Try.pinned (OpenSpec.ofChange fnExactLeftAfterWrong)

/-- 'laws.FnExactSlacksOf': WHATEVER THE INPUT: true; the input reads as it did. -/
def fnExactSlacksOfSpec : ChangeSpec := { name := "fnExactSlacksOf", fn := fun _ => fun
  | [d1, d2, d3] => { results := [.lit (.bool true)], args := [d1, d2, d3] }
  | _ => none }
def fnExactSlacksOfRow : OpenClaim := { program := "ytjnaicgmfnhjeaa", sum := "ef2f6f3a7f84cef56bf9a8643775f10484f739b57ae123ec563999cf6a4cd6b6", func := "loop.example/g01103/laws.FnExactSlacksOf", spec := "fnExactSlacksOf", unfollowed := true, recurses := true, apart := false }
def FnExactSlacksOfSaid : Prop := fnExactSlacksOfRow.holds Try.pinned (OpenSpec.ofChange fnExactSlacksOfSpec)

/-- ITS FALSE NEIGHBOUR: 'it returns false'. Refute it at one input. -/
def fnExactSlacksOfWrong : ChangeSpec := { name := "fnExactSlacksOf", fn := fun _ => fun
  | [d1, d2, d3] => { results := [.lit (.bool false)], args := [d1, d2, d3] }
  | _ => none }
def FnExactSlacksOfWrongFalsely : Prop := fnExactSlacksOfRow.holds Try.pinned (OpenSpec.ofChange fnExactSlacksOfWrong)

/-- 'laws.FnTies': WHATEVER THE INPUT: true; the input reads as it did. -/
def fnTiesSpec : ChangeSpec := { name := "fnTies", fn := fun _ => fun
  | [d] => { results := [.lit (.bool true)], args := [d] }
  | _ => none }
def fnTiesRow : OpenClaim := { program := "ytjnaicgmfnhjeaa", sum := "ef2f6f3a7f84cef56bf9a8643775f10484f739b57ae123ec563999cf6a4cd6b6", func := "loop.example/g01103/laws.FnTies", spec := "fnTies", unfollowed := true, recurses := true, apart := false }
def FnTiesSaid : Prop := fnTiesRow.holds Try.pinned (OpenSpec.ofChange fnTiesSpec)

/-- ITS FALSE NEIGHBOUR: 'it returns false'. Refute it at one input. -/
def fnTiesWrong : ChangeSpec := { name := "fnTies", fn := fun _ => fun
  | [d] => { results := [.lit (.bool false)], args := [d] }
  | _ => none }
def FnTiesWrongFalsely : Prop := fnTiesRow.holds Try.pinned (OpenSpec.ofChange fnTiesWrong)

/-- 'laws.FnSlacks': WHATEVER THE INPUT: true; the input reads as it did. -/
def fnSlacksSpec : ChangeSpec := { name := "fnSlacks", fn := fun _ => fun
  | [d] => { results := [.lit (.bool true)], args := [d] }
  | _ => none }
def fnSlacksRow : OpenClaim := { program := "ytjnaicgmfnhjeaa", sum := "ef2f6f3a7f84cef56bf9a8643775f10484f739b57ae123ec563999cf6a4cd6b6", func := "loop.example/g01103/laws.FnSlacks", spec := "fnSlacks", unfollowed := true, recurses := true, apart := false }
def FnSlacksSaid : Prop := fnSlacksRow.holds Try.pinned (OpenSpec.ofChange fnSlacksSpec)

/-- ITS FALSE NEIGHBOUR: 'it returns false'. Refute it at one input. -/
def fnSlacksWrong : ChangeSpec := { name := "fnSlacks", fn := fun _ => fun
  | [d] => { results := [.lit (.bool false)], args := [d] }
  | _ => none }
def FnSlacksWrongFalsely : Prop := fnSlacksRow.holds Try.pinned (OpenSpec.ofChange fnSlacksWrong)

/-- 'laws.FnSchedules': WHATEVER THE INPUT: true; the input reads as it did. -/
def fnSchedulesSpec : ChangeSpec := { name := "fnSchedules", fn := fun _ => fun
  | [d] => { results := [.lit (.bool true)], args := [d] }
  | _ => none }
def fnSchedulesRow : OpenClaim := { program := "ytjnaicgmfnhjeaa", sum := "ef2f6f3a7f84cef56bf9a8643775f10484f739b57ae123ec563999cf6a4cd6b6", func := "loop.example/g01103/laws.FnSchedules", spec := "fnSchedules", unfollowed := true, recurses := true, apart := false }
def FnSchedulesSaid : Prop := fnSchedulesRow.holds Try.pinned (OpenSpec.ofChange fnSchedulesSpec)

/-- ITS FALSE NEIGHBOUR: 'it returns false'. Refute it at one input. -/
def fnSchedulesWrong : ChangeSpec := { name := "fnSchedules", fn := fun _ => fun
  | [d] => { results := [.lit (.bool false)], args := [d] }
  | _ => none }
def FnSchedulesWrongFalsely : Prop := fnSchedulesRow.holds Try.pinned (OpenSpec.ofChange fnSchedulesWrong)

/-- 'laws.FnRuledOrders': WHATEVER THE INPUT: true; the input reads as it did. -/
def fnRuledOrdersSpec : ChangeSpec := { name := "fnRuledOrders", fn := fun _ => fun
  | [d] => { results := [.lit (.bool true)], args := [d] }
  | _ => none }
def fnRuledOrdersRow : OpenClaim := { program := "ytjnaicgmfnhjeaa", sum := "ef2f6f3a7f84cef56bf9a8643775f10484f739b57ae123ec563999cf6a4cd6b6", func := "loop.example/g01103/laws.FnRuledOrders", spec := "fnRuledOrders", unfollowed := true, recurses := true, apart := false }
def FnRuledOrdersSaid : Prop := fnRuledOrdersRow.holds Try.pinned (OpenSpec.ofChange fnRuledOrdersSpec)

/-- ITS FALSE NEIGHBOUR: 'it returns false'. Refute it at one input. -/
def fnRuledOrdersWrong : ChangeSpec := { name := "fnRuledOrders", fn := fun _ => fun
  | [d] => { results := [.lit (.bool false)], args := [d] }
  | _ => none }
def FnRuledOrdersWrongFalsely : Prop := fnRuledOrdersRow.holds Try.pinned (OpenSpec.ofChange fnRuledOrdersWrong)

/-- 'laws.FnPairLoss': WHATEVER THE INPUT: true; the input reads as it did. -/
def fnPairLossSpec : ChangeSpec := { name := "fnPairLoss", fn := fun _ => fun
  | [d] => { results := [.lit (.bool true)], args := [d] }
  | _ => none }
def fnPairLossRow : OpenClaim := { program := "ytjnaicgmfnhjeaa", sum := "ef2f6f3a7f84cef56bf9a8643775f10484f739b57ae123ec563999cf6a4cd6b6", func := "loop.example/g01103/laws.FnPairLoss", spec := "fnPairLoss", unfollowed := true, recurses := true, apart := false }
def FnPairLossSaid : Prop := fnPairLossRow.holds Try.pinned (OpenSpec.ofChange fnPairLossSpec)

/-- ITS FALSE NEIGHBOUR: 'it returns false'. Refute it at one input. -/
def fnPairLossWrong : ChangeSpec := { name := "fnPairLoss", fn := fun _ => fun
  | [d] => { results := [.lit (.bool false)], args := [d] }
  | _ => none }
def FnPairLossWrongFalsely : Prop := fnPairLossRow.holds Try.pinned (OpenSpec.ofChange fnPairLossWrong)

/- THE SECOND FORM. 'bulk': how many values and letters a reading holds, each counted each time it is reached (what is shared counts as often as it is met; a slice's spare places count too). A statement '..UptoSaid' is the law's where the arguments, and the package variables that the reading takes, are together of bulk at most 1048576: NARROWER than '..Said'. Prove '..Said' where nothing that the law and all that it calls make is longer than what came in: it says more and counts as full. Else prove '..UptoSaid'. A law counts once. -/
mutual
def uptoBulk {H : Type} : DataW H → Nat
  | .lit (.string bytes) => bytes.length + 1
  | .lit _ => 1
  | .nil => 1
  | .ptr d => uptoBulk d + 1
  | .slice elems spare => uptoBulkAll elems + uptoBulkAll spare + 1
  | .agg parts => uptoBulkAll parts + 1
  | .iface _ d => uptoBulk d + 1
  | .map entries => uptoBulkEntries entries + 1
  | .held _ => 1
def uptoBulkAll {H : Type} : List (DataW H) → Nat
  | [] => 0
  | d :: r => uptoBulk d + uptoBulkAll r
def uptoBulkEntries {H : Type} : List (Lit × DataW H) → Nat
  | [] => 0
  | x :: r => uptoBulkEntry x + uptoBulkEntries r
def uptoBulkEntry {H : Type} : Lit × DataW H → Nat
  | (.string bytes, d) => bytes.length + uptoBulk d + 1
  | (_, d) => uptoBulk d + 1
 end
def uptoSmall : (H : Type) → List (DataW H) → Bool := fun _ ds => decide (uptoBulkAll ds ≤ 1048576)
def OpenSpec.upto (s : _root_.Go.ChangeSpec) : _root_.Go.OpenSpec := { _root_.Go.OpenSpec.ofChange s with cond := some uptoSmall }

/-- 'laws.FnExactBlocksOf', WHERE WHAT IT READS IS OF BULK AT MOST 1048576: true; the input reads as it did. -/
def fnExactBlocksOfUptoRow : OpenClaim := { program := "ytjnaicgmfnhjeaa", sum := "ef2f6f3a7f84cef56bf9a8643775f10484f739b57ae123ec563999cf6a4cd6b6", func := "loop.example/g01103/laws.FnExactBlocksOf", spec := "fnExactBlocksOf", unfollowed := true, recurses := true, apart := false, narrowed := true }
def FnExactBlocksOfUptoSaid : Prop := fnExactBlocksOfUptoRow.holds Try.pinned (OpenSpec.upto fnExactBlocksOfSpec)

/-- 'laws.FnExactTieGroups', WHERE WHAT IT READS IS OF BULK AT MOST 1048576: true; the input reads as it did. -/
def fnExactTieGroupsUptoRow : OpenClaim := { program := "ytjnaicgmfnhjeaa", sum := "ef2f6f3a7f84cef56bf9a8643775f10484f739b57ae123ec563999cf6a4cd6b6", func := "loop.example/g01103/laws.FnExactTieGroups", spec := "fnExactTieGroups", unfollowed := true, recurses := true, apart := false, narrowed := true }
def FnExactTieGroupsUptoSaid : Prop := fnExactTieGroupsUptoRow.holds Try.pinned (OpenSpec.upto fnExactTieGroupsSpec)

/-- 'laws.FnExactCountRuled', WHERE WHAT IT READS IS OF BULK AT MOST 1048576: true; the input reads as it did. -/
def fnExactCountRuledUptoRow : OpenClaim := { program := "ytjnaicgmfnhjeaa", sum := "ef2f6f3a7f84cef56bf9a8643775f10484f739b57ae123ec563999cf6a4cd6b6", func := "loop.example/g01103/laws.FnExactCountRuled", spec := "fnExactCountRuled", unfollowed := true, recurses := true, apart := false, narrowed := true }
def FnExactCountRuledUptoSaid : Prop := fnExactCountRuledUptoRow.holds Try.pinned (OpenSpec.upto fnExactCountRuledSpec)

/-- 'laws.FnExactLateRule', WHERE WHAT IT READS IS OF BULK AT MOST 1048576: true; the input reads as it did. -/
def fnExactLateRuleUptoRow : OpenClaim := { program := "ytjnaicgmfnhjeaa", sum := "ef2f6f3a7f84cef56bf9a8643775f10484f739b57ae123ec563999cf6a4cd6b6", func := "loop.example/g01103/laws.FnExactLateRule", spec := "fnExactLateRule", unfollowed := true, recurses := true, apart := false, narrowed := true }
def FnExactLateRuleUptoSaid : Prop := fnExactLateRuleUptoRow.holds Try.pinned (OpenSpec.upto fnExactLateRuleSpec)

/-- 'laws.FnExactLateSteps', WHERE WHAT IT READS IS OF BULK AT MOST 1048576: true; the input reads as it did. -/
def fnExactLateStepsUptoRow : OpenClaim := { program := "ytjnaicgmfnhjeaa", sum := "ef2f6f3a7f84cef56bf9a8643775f10484f739b57ae123ec563999cf6a4cd6b6", func := "loop.example/g01103/laws.FnExactLateSteps", spec := "fnExactLateSteps", unfollowed := true, recurses := true, apart := false, narrowed := true }
def FnExactLateStepsUptoSaid : Prop := fnExactLateStepsUptoRow.holds Try.pinned (OpenSpec.upto fnExactLateStepsSpec)

/-- 'laws.FnExactOnTime', WHERE WHAT IT READS IS OF BULK AT MOST 1048576: true; the input reads as it did. -/
def fnExactOnTimeUptoRow : OpenClaim := { program := "ytjnaicgmfnhjeaa", sum := "ef2f6f3a7f84cef56bf9a8643775f10484f739b57ae123ec563999cf6a4cd6b6", func := "loop.example/g01103/laws.FnExactOnTime", spec := "fnExactOnTime", unfollowed := true, recurses := true, apart := false, narrowed := true }
def FnExactOnTimeUptoSaid : Prop := fnExactOnTimeUptoRow.holds Try.pinned (OpenSpec.upto fnExactOnTimeSpec)

/-- 'laws.FnExactFewestLate', WHERE WHAT IT READS IS OF BULK AT MOST 1048576: true; the input reads as it did. -/
def fnExactFewestLateUptoRow : OpenClaim := { program := "ytjnaicgmfnhjeaa", sum := "ef2f6f3a7f84cef56bf9a8643775f10484f739b57ae123ec563999cf6a4cd6b6", func := "loop.example/g01103/laws.FnExactFewestLate", spec := "fnExactFewestLate", unfollowed := true, recurses := true, apart := false, narrowed := true }
def FnExactFewestLateUptoSaid : Prop := fnExactFewestLateUptoRow.holds Try.pinned (OpenSpec.upto fnExactFewestLateSpec)

/-- 'laws.FnExactLeftAfter', WHERE WHAT IT READS IS OF BULK AT MOST 1048576: true; the input reads as it did. -/
def fnExactLeftAfterUptoRow : OpenClaim := { program := "ytjnaicgmfnhjeaa", sum := "ef2f6f3a7f84cef56bf9a8643775f10484f739b57ae123ec563999cf6a4cd6b6", func := "loop.example/g01103/laws.FnExactLeftAfter", spec := "fnExactLeftAfter", unfollowed := true, recurses := true, apart := false, narrowed := true }
def FnExactLeftAfterUptoSaid : Prop := fnExactLeftAfterUptoRow.holds Try.pinned (OpenSpec.upto fnExactLeftAfterSpec)

/-- 'laws.FnExactSlacksOf', WHERE WHAT IT READS IS OF BULK AT MOST 1048576: true; the input reads as it did. -/
def fnExactSlacksOfUptoRow : OpenClaim := { program := "ytjnaicgmfnhjeaa", sum := "ef2f6f3a7f84cef56bf9a8643775f10484f739b57ae123ec563999cf6a4cd6b6", func := "loop.example/g01103/laws.FnExactSlacksOf", spec := "fnExactSlacksOf", unfollowed := true, recurses := true, apart := false, narrowed := true }
def FnExactSlacksOfUptoSaid : Prop := fnExactSlacksOfUptoRow.holds Try.pinned (OpenSpec.upto fnExactSlacksOfSpec)

/-- 'laws.FnTies', WHERE WHAT IT READS IS OF BULK AT MOST 1048576: true; the input reads as it did. -/
def fnTiesUptoRow : OpenClaim := { program := "ytjnaicgmfnhjeaa", sum := "ef2f6f3a7f84cef56bf9a8643775f10484f739b57ae123ec563999cf6a4cd6b6", func := "loop.example/g01103/laws.FnTies", spec := "fnTies", unfollowed := true, recurses := true, apart := false, narrowed := true }
def FnTiesUptoSaid : Prop := fnTiesUptoRow.holds Try.pinned (OpenSpec.upto fnTiesSpec)

/-- 'laws.FnSlacks', WHERE WHAT IT READS IS OF BULK AT MOST 1048576: true; the input reads as it did. -/
def fnSlacksUptoRow : OpenClaim := { program := "ytjnaicgmfnhjeaa", sum := "ef2f6f3a7f84cef56bf9a8643775f10484f739b57ae123ec563999cf6a4cd6b6", func := "loop.example/g01103/laws.FnSlacks", spec := "fnSlacks", unfollowed := true, recurses := true, apart := false, narrowed := true }
def FnSlacksUptoSaid : Prop := fnSlacksUptoRow.holds Try.pinned (OpenSpec.upto fnSlacksSpec)

/-- 'laws.FnSchedules', WHERE WHAT IT READS IS OF BULK AT MOST 1048576: true; the input reads as it did. -/
def fnSchedulesUptoRow : OpenClaim := { program := "ytjnaicgmfnhjeaa", sum := "ef2f6f3a7f84cef56bf9a8643775f10484f739b57ae123ec563999cf6a4cd6b6", func := "loop.example/g01103/laws.FnSchedules", spec := "fnSchedules", unfollowed := true, recurses := true, apart := false, narrowed := true }
def FnSchedulesUptoSaid : Prop := fnSchedulesUptoRow.holds Try.pinned (OpenSpec.upto fnSchedulesSpec)

/-- 'laws.FnRuledOrders', WHERE WHAT IT READS IS OF BULK AT MOST 1048576: true; the input reads as it did. -/
def fnRuledOrdersUptoRow : OpenClaim := { program := "ytjnaicgmfnhjeaa", sum := "ef2f6f3a7f84cef56bf9a8643775f10484f739b57ae123ec563999cf6a4cd6b6", func := "loop.example/g01103/laws.FnRuledOrders", spec := "fnRuledOrders", unfollowed := true, recurses := true, apart := false, narrowed := true }
def FnRuledOrdersUptoSaid : Prop := fnRuledOrdersUptoRow.holds Try.pinned (OpenSpec.upto fnRuledOrdersSpec)

/-- 'laws.FnPairLoss', WHERE WHAT IT READS IS OF BULK AT MOST 1048576: true; the input reads as it did. -/
def fnPairLossUptoRow : OpenClaim := { program := "ytjnaicgmfnhjeaa", sum := "ef2f6f3a7f84cef56bf9a8643775f10484f739b57ae123ec563999cf6a4cd6b6", func := "loop.example/g01103/laws.FnPairLoss", spec := "fnPairLoss", unfollowed := true, recurses := true, apart := false, narrowed := true }
def FnPairLossUptoSaid : Prop := fnPairLossUptoRow.holds Try.pinned (OpenSpec.upto fnPairLossSpec)

end Rows
end Go.Proofs.Ytjnaicgmfnhjeaa
