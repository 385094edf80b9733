/-
  No cell of these rows narrows 'for every input' (looked for: loops, veiled, ifaces, maps, wideKeys, modest, calm, conditions, laid).
  DERIVED. THE GIVEN ROWS OF THIS SEAT. 11 by the template 'for every input the law returns true; each argument reads behind the call as it read before'; 0 by the template 'total and deterministic' (their statements: YtgiecjcgidgpfaaTotals.lean).
  GIVEN WITH THE SEED: the statements are not yours to turn. If you find one false, say at which input.
  Laid BY PROGRAM, IN A SANDBOX (cutbox-rows.mjs): the forced cells as the released guide's own fill.sh prints them over the translation e56ac0a672ad22f5… (all of the seat's roots in one cut). By AI agents, Wed Nov 11 2026. No macro, syntax, notation, axiom, sorry.
-/
import Derived.Test.YtgiecjcgidgpfaaChecked
import GoSem.Claim
import GoSem.ClaimJoined
import GoSem.ClaimMapViews
import Derived.JoinedTies
import Derived.KernelRfl
namespace Go.Proofs.Ytgiecjcgidgpfaa
/- THE CELL 'sum', in the pinned program and in every row, IS THE sha256 OF THE DUMP (.gsa) THAT YtgiecjcgidgpfaaProg.lean LOADS. Nothing in Lean hashes anything: it is a label: what it is worth is what the hold of that sum in a sandbox is worth. -/
noncomputable def Try.pinned : Pinned := { name := "ytgiecjcgidgpfaa", sum := "e56ac0a672ad22f5a7088886df48c917011d5d8a5dcb22806b106196da3cf2b8", checked := Try.checked }
namespace Rows
def none {H : Type} : Left H := { results := [], args := [] }

/-- 'laws.FnSchedules': WHATEVER THE INPUT: true; the input reads as it did. -/
def fnSchedulesSpec : ChangeSpec := { name := "fnSchedules", fn := fun _ => fun
  | [d] => { results := [.lit (.bool true)], args := [d] }
  | _ => none }
def fnSchedulesRow : OpenClaim := { program := "ytgiecjcgidgpfaa", sum := "e56ac0a672ad22f5a7088886df48c917011d5d8a5dcb22806b106196da3cf2b8", func := "loop.example/g01103/laws.FnSchedules", spec := "fnSchedules", unfollowed := true, recurses := true, apart := false }
def FnSchedulesSaid : Prop := fnSchedulesRow.holds Try.pinned (OpenSpec.ofChange fnSchedulesSpec)

/-- ITS FALSE NEIGHBOUR: 'it returns false'. Refute it at one input. -/
def fnSchedulesWrong : ChangeSpec := { name := "fnSchedules", fn := fun _ => fun
  | [d] => { results := [.lit (.bool false)], args := [d] }
  | _ => none }
def FnSchedulesWrongFalsely : Prop := fnSchedulesRow.holds Try.pinned (OpenSpec.ofChange fnSchedulesWrong)

/-- 'laws.FnBestOrders': WHATEVER THE INPUT: true; the input reads as it did. -/
def fnBestOrdersSpec : ChangeSpec := { name := "fnBestOrders", fn := fun _ => fun
  | [d] => { results := [.lit (.bool true)], args := [d] }
  | _ => none }
def fnBestOrdersRow : OpenClaim := { program := "ytgiecjcgidgpfaa", sum := "e56ac0a672ad22f5a7088886df48c917011d5d8a5dcb22806b106196da3cf2b8", func := "loop.example/g01103/laws.FnBestOrders", spec := "fnBestOrders", unfollowed := true, recurses := true, apart := false }
def FnBestOrdersSaid : Prop := fnBestOrdersRow.holds Try.pinned (OpenSpec.ofChange fnBestOrdersSpec)

/-- ITS FALSE NEIGHBOUR: 'it returns false'. Refute it at one input. -/
def fnBestOrdersWrong : ChangeSpec := { name := "fnBestOrders", fn := fun _ => fun
  | [d] => { results := [.lit (.bool false)], args := [d] }
  | _ => none }
def FnBestOrdersWrongFalsely : Prop := fnBestOrdersRow.holds Try.pinned (OpenSpec.ofChange fnBestOrdersWrong)

/-- 'laws.FnExactBlocksOf': WHATEVER THE INPUT: true; the input reads as it did. -/
def fnExactBlocksOfSpec : ChangeSpec := { name := "fnExactBlocksOf", fn := fun _ => fun
  | [d1, d2] => { results := [.lit (.bool true)], args := [d1, d2] }
  | _ => none }
def fnExactBlocksOfRow : OpenClaim := { program := "ytgiecjcgidgpfaa", sum := "e56ac0a672ad22f5a7088886df48c917011d5d8a5dcb22806b106196da3cf2b8", func := "loop.example/g01103/laws.FnExactBlocksOf", spec := "fnExactBlocksOf", unfollowed := true, recurses := true, apart := false }
def FnExactBlocksOfSaid : Prop := fnExactBlocksOfRow.holds Try.pinned (OpenSpec.ofChange fnExactBlocksOfSpec)

/-- ITS FALSE NEIGHBOUR: 'it returns false'. Refute it at one input. -/
def fnExactBlocksOfWrong : ChangeSpec := { name := "fnExactBlocksOf", fn := fun _ => fun
  | [d1, d2] => { results := [.lit (.bool false)], args := [d1, d2] }
  | _ => none }
def FnExactBlocksOfWrongFalsely : Prop := fnExactBlocksOfRow.holds Try.pinned (OpenSpec.ofChange fnExactBlocksOfWrong)

/-- 'laws.FnExactBestOrder': WHATEVER THE INPUT: true; the input reads as it did. -/
def fnExactBestOrderSpec : ChangeSpec := { name := "fnExactBestOrder", fn := fun _ => fun
  | [d1, d2] => { results := [.lit (.bool true)], args := [d1, d2] }
  | _ => none }
def fnExactBestOrderRow : OpenClaim := { program := "ytgiecjcgidgpfaa", sum := "e56ac0a672ad22f5a7088886df48c917011d5d8a5dcb22806b106196da3cf2b8", func := "loop.example/g01103/laws.FnExactBestOrder", spec := "fnExactBestOrder", unfollowed := true, recurses := true, apart := false }
def FnExactBestOrderSaid : Prop := fnExactBestOrderRow.holds Try.pinned (OpenSpec.ofChange fnExactBestOrderSpec)

/-- ITS FALSE NEIGHBOUR: 'it returns false'. Refute it at one input. -/
def fnExactBestOrderWrong : ChangeSpec := { name := "fnExactBestOrder", fn := fun _ => fun
  | [d1, d2] => { results := [.lit (.bool false)], args := [d1, d2] }
  | _ => none }
def FnExactBestOrderWrongFalsely : Prop := fnExactBestOrderRow.holds Try.pinned (OpenSpec.ofChange fnExactBestOrderWrong)

/-- 'laws.FnExactBestValue': WHATEVER THE INPUT: true; the input reads as it did. -/
def fnExactBestValueSpec : ChangeSpec := { name := "fnExactBestValue", fn := fun _ => fun
  | [d1, d2] => { results := [.lit (.bool true)], args := [d1, d2] }
  | _ => none }
def fnExactBestValueRow : OpenClaim := { program := "ytgiecjcgidgpfaa", sum := "e56ac0a672ad22f5a7088886df48c917011d5d8a5dcb22806b106196da3cf2b8", func := "loop.example/g01103/laws.FnExactBestValue", spec := "fnExactBestValue", unfollowed := true, recurses := true, apart := false }
def FnExactBestValueSaid : Prop := fnExactBestValueRow.holds Try.pinned (OpenSpec.ofChange fnExactBestValueSpec)

/-- ITS FALSE NEIGHBOUR: 'it returns false'. Refute it at one input. -/
def fnExactBestValueWrong : ChangeSpec := { name := "fnExactBestValue", fn := fun _ => fun
  | [d1, d2] => { results := [.lit (.bool false)], args := [d1, d2] }
  | _ => none }
def FnExactBestValueWrongFalsely : Prop := fnExactBestValueRow.holds Try.pinned (OpenSpec.ofChange fnExactBestValueWrong)

/-- 'laws.FnExactIsBestOrder': WHATEVER THE INPUT: true; the input reads as it did. -/
def fnExactIsBestOrderSpec : ChangeSpec := { name := "fnExactIsBestOrder", fn := fun _ => fun
  | [d1, d2, d3] => { results := [.lit (.bool true)], args := [d1, d2, d3] }
  | _ => none }
def fnExactIsBestOrderRow : OpenClaim := { program := "ytgiecjcgidgpfaa", sum := "e56ac0a672ad22f5a7088886df48c917011d5d8a5dcb22806b106196da3cf2b8", func := "loop.example/g01103/laws.FnExactIsBestOrder", spec := "fnExactIsBestOrder", unfollowed := true, recurses := true, apart := false }
def FnExactIsBestOrderSaid : Prop := fnExactIsBestOrderRow.holds Try.pinned (OpenSpec.ofChange fnExactIsBestOrderSpec)

/-- ITS FALSE NEIGHBOUR: 'it returns false'. Refute it at one input. -/
def fnExactIsBestOrderWrong : ChangeSpec := { name := "fnExactIsBestOrder", fn := fun _ => fun
  | [d1, d2, d3] => { results := [.lit (.bool false)], args := [d1, d2, d3] }
  | _ => none }
def FnExactIsBestOrderWrongFalsely : Prop := fnExactIsBestOrderRow.holds Try.pinned (OpenSpec.ofChange fnExactIsBestOrderWrong)

/-- 'laws.FnExactCountBest': WHATEVER THE INPUT: true; the input reads as it did. -/
def fnExactCountBestSpec : ChangeSpec := { name := "fnExactCountBest", fn := fun _ => fun
  | [d1, d2] => { results := [.lit (.bool true)], args := [d1, d2] }
  | _ => none }
def fnExactCountBestRow : OpenClaim := { program := "ytgiecjcgidgpfaa", sum := "e56ac0a672ad22f5a7088886df48c917011d5d8a5dcb22806b106196da3cf2b8", func := "loop.example/g01103/laws.FnExactCountBest", spec := "fnExactCountBest", unfollowed := true, recurses := true, apart := false }
def FnExactCountBestSaid : Prop := fnExactCountBestRow.holds Try.pinned (OpenSpec.ofChange fnExactCountBestSpec)

/-- ITS FALSE NEIGHBOUR: 'it returns false'. Refute it at one input. -/
def fnExactCountBestWrong : ChangeSpec := { name := "fnExactCountBest", fn := fun _ => fun
  | [d1, d2] => { results := [.lit (.bool false)], args := [d1, d2] }
  | _ => none }
def FnExactCountBestWrongFalsely : Prop := fnExactCountBestRow.holds Try.pinned (OpenSpec.ofChange fnExactCountBestWrong)

/-- 'laws.FnTies': WHATEVER THE INPUT: true; the input reads as it did. -/
def fnTiesSpec : ChangeSpec := { name := "fnTies", fn := fun _ => fun
  | [d] => { results := [.lit (.bool true)], args := [d] }
  | _ => none }
def fnTiesRow : OpenClaim := { program := "ytgiecjcgidgpfaa", sum := "e56ac0a672ad22f5a7088886df48c917011d5d8a5dcb22806b106196da3cf2b8", func := "loop.example/g01103/laws.FnTies", spec := "fnTies", unfollowed := true, recurses := true, apart := false }
def FnTiesSaid : Prop := fnTiesRow.holds Try.pinned (OpenSpec.ofChange fnTiesSpec)

/-- ITS FALSE NEIGHBOUR: 'it returns false'. Refute it at one input. -/
def fnTiesWrong : ChangeSpec := { name := "fnTies", fn := fun _ => fun
  | [d] => { results := [.lit (.bool false)], args := [d] }
  | _ => none }
def FnTiesWrongFalsely : Prop := fnTiesRow.holds Try.pinned (OpenSpec.ofChange fnTiesWrong)

/-- 'laws.FnRuledOrders': WHATEVER THE INPUT: true; the input reads as it did. -/
def fnRuledOrdersSpec : ChangeSpec := { name := "fnRuledOrders", fn := fun _ => fun
  | [d] => { results := [.lit (.bool true)], args := [d] }
  | _ => none }
def fnRuledOrdersRow : OpenClaim := { program := "ytgiecjcgidgpfaa", sum := "e56ac0a672ad22f5a7088886df48c917011d5d8a5dcb22806b106196da3cf2b8", func := "loop.example/g01103/laws.FnRuledOrders", spec := "fnRuledOrders", unfollowed := true, recurses := true, apart := false }
def FnRuledOrdersSaid : Prop := fnRuledOrdersRow.holds Try.pinned (OpenSpec.ofChange fnRuledOrdersSpec)

/-- ITS FALSE NEIGHBOUR: 'it returns false'. Refute it at one input. -/
def fnRuledOrdersWrong : ChangeSpec := { name := "fnRuledOrders", fn := fun _ => fun
  | [d] => { results := [.lit (.bool false)], args := [d] }
  | _ => none }
def FnRuledOrdersWrongFalsely : Prop := fnRuledOrdersRow.holds Try.pinned (OpenSpec.ofChange fnRuledOrdersWrong)

/-- 'laws.FnPairLoss': WHATEVER THE INPUT: true; the input reads as it did. -/
def fnPairLossSpec : ChangeSpec := { name := "fnPairLoss", fn := fun _ => fun
  | [d] => { results := [.lit (.bool true)], args := [d] }
  | _ => none }
def fnPairLossRow : OpenClaim := { program := "ytgiecjcgidgpfaa", sum := "e56ac0a672ad22f5a7088886df48c917011d5d8a5dcb22806b106196da3cf2b8", func := "loop.example/g01103/laws.FnPairLoss", spec := "fnPairLoss", unfollowed := true, recurses := true, apart := false }
def FnPairLossSaid : Prop := fnPairLossRow.holds Try.pinned (OpenSpec.ofChange fnPairLossSpec)

/-- ITS FALSE NEIGHBOUR: 'it returns false'. Refute it at one input. -/
def fnPairLossWrong : ChangeSpec := { name := "fnPairLoss", fn := fun _ => fun
  | [d] => { results := [.lit (.bool false)], args := [d] }
  | _ => none }
def FnPairLossWrongFalsely : Prop := fnPairLossRow.holds Try.pinned (OpenSpec.ofChange fnPairLossWrong)

/-- 'laws.FnSorting': WHATEVER THE INPUT: true; the input reads as it did. -/
def fnSortingSpec : ChangeSpec := { name := "fnSorting", fn := fun _ => fun
  | [d] => { results := [.lit (.bool true)], args := [d] }
  | _ => none }
def fnSortingRow : OpenClaim := { program := "ytgiecjcgidgpfaa", sum := "e56ac0a672ad22f5a7088886df48c917011d5d8a5dcb22806b106196da3cf2b8", func := "loop.example/g01103/laws.FnSorting", spec := "fnSorting", unfollowed := true, recurses := true, apart := false }
def FnSortingSaid : Prop := fnSortingRow.holds Try.pinned (OpenSpec.ofChange fnSortingSpec)

/-- ITS FALSE NEIGHBOUR: 'it returns false'. Refute it at one input. -/
def fnSortingWrong : ChangeSpec := { name := "fnSorting", fn := fun _ => fun
  | [d] => { results := [.lit (.bool false)], args := [d] }
  | _ => none }
def FnSortingWrongFalsely : Prop := fnSortingRow.holds Try.pinned (OpenSpec.ofChange fnSortingWrong)

/- THE SECOND FORM. 'bulk': how many values and letters a reading holds, each counted each time it is reached (what is shared counts as often as it is met; a slice's spare places count too). A statement '..UptoSaid' is the law's where the arguments, and the package variables that the reading takes, are together of bulk at most 1048576: NARROWER than '..Said'. Prove '..Said' where nothing that the law and all that it calls make is longer than what came in: it says more and counts as full. Else prove '..UptoSaid'. A law counts once. -/
mutual
def uptoBulk {H : Type} : DataW H → Nat
  | .lit (.string bytes) => bytes.length + 1
  | .lit _ => 1
  | .nil => 1
  | .ptr d => uptoBulk d + 1
  | .slice elems spare => uptoBulkAll elems + uptoBulkAll spare + 1
  | .agg parts => uptoBulkAll parts + 1
  | .iface _ d => uptoBulk d + 1
  | .map entries => uptoBulkEntries entries + 1
  | .held _ => 1
def uptoBulkAll {H : Type} : List (DataW H) → Nat
  | [] => 0
  | d :: r => uptoBulk d + uptoBulkAll r
def uptoBulkEntries {H : Type} : List (Lit × DataW H) → Nat
  | [] => 0
  | x :: r => uptoBulkEntry x + uptoBulkEntries r
def uptoBulkEntry {H : Type} : Lit × DataW H → Nat
  | (.string bytes, d) => bytes.length + uptoBulk d + 1
  | (_, d) => uptoBulk d + 1
 end
def uptoSmall : (H : Type) → List (DataW H) → Bool := fun _ ds => decide (uptoBulkAll ds ≤ 1048576)
def OpenSpec.upto (s : _root_.Go.ChangeSpec) : _root_.Go.OpenSpec := { _root_.Go.OpenSpec.ofChange s with cond := some uptoSmall }

/-- 'laws.FnSchedules', WHERE WHAT IT READS IS OF BULK AT MOST 1048576: true; the input reads as it did. -/
def fnSchedulesUptoRow : OpenClaim := { program := "ytgiecjcgidgpfaa", sum := "e56ac0a672ad22f5a7088886df48c917011d5d8a5dcb22806b106196da3cf2b8", func := "loop.example/g01103/laws.FnSchedules", spec := "fnSchedules", unfollowed := true, recurses := true, apart := false, narrowed := true }
def FnSchedulesUptoSaid : Prop := fnSchedulesUptoRow.holds Try.pinned (OpenSpec.upto fnSchedulesSpec)

/-- 'laws.FnBestOrders', WHERE WHAT IT READS IS OF BULK AT MOST 1048576: true; the input reads as it did. -/
def fnBestOrdersUptoRow : OpenClaim := { program := "ytgiecjcgidgpfaa", sum := "e56ac0a672ad22f5a7088886df48c917011d5d8a5dcb22806b106196da3cf2b8", func := "loop.example/g01103/laws.FnBestOrders", spec := "fnBestOrders", unfollowed := true, recurses := true, apart := false, narrowed := true }
def FnBestOrdersUptoSaid : Prop := fnBestOrdersUptoRow.holds Try.pinned (OpenSpec.upto fnBestOrdersSpec)

/-- 'laws.FnExactBlocksOf', WHERE WHAT IT READS IS OF BULK AT MOST 1048576: true; the input reads as it did. -/
def fnExactBlocksOfUptoRow : OpenClaim := { program := "ytgiecjcgidgpfaa", sum := "e56ac0a672ad22f5a7088886df48c917011d5d8a5dcb22806b106196da3cf2b8", func := "loop.example/g01103/laws.FnExactBlocksOf", spec := "fnExactBlocksOf", unfollowed := true, recurses := true, apart := false, narrowed := true }
def FnExactBlocksOfUptoSaid : Prop := fnExactBlocksOfUptoRow.holds Try.pinned (OpenSpec.upto fnExactBlocksOfSpec)

/-- 'laws.FnExactBestOrder', WHERE WHAT IT READS IS OF BULK AT MOST 1048576: true; the input reads as it did. -/
def fnExactBestOrderUptoRow : OpenClaim := { program := "ytgiecjcgidgpfaa", sum := "e56ac0a672ad22f5a7088886df48c917011d5d8a5dcb22806b106196da3cf2b8", func := "loop.example/g01103/laws.FnExactBestOrder", spec := "fnExactBestOrder", unfollowed := true, recurses := true, apart := false, narrowed := true }
def FnExactBestOrderUptoSaid : Prop := fnExactBestOrderUptoRow.holds Try.pinned (OpenSpec.upto fnExactBestOrderSpec)

/-- 'laws.FnExactBestValue', WHERE WHAT IT READS IS OF BULK AT MOST 1048576: true; the input reads as it did. -/
def fnExactBestValueUptoRow : OpenClaim := { program := "ytgiecjcgidgpfaa", sum := "e56ac0a672ad22f5a7088886df48c917011d5d8a5dcb22806b106196da3cf2b8", func := "loop.example/g01103/laws.FnExactBestValue", spec := "fnExactBestValue", unfollowed := true, recurses := true, apart := false, narrowed := true }
def FnExactBestValueUptoSaid : Prop := fnExactBestValueUptoRow.holds Try.pinned (OpenSpec.upto fnExactBestValueSpec)

/-- 'laws.FnExactIsBestOrder', WHERE WHAT IT READS IS OF BULK AT MOST 1048576: true; the input reads as it did. -/
def fnExactIsBestOrderUptoRow : OpenClaim := { program := "ytgiecjcgidgpfaa", sum := "e56ac0a672ad22f5a7088886df48c917011d5d8a5dcb22806b106196da3cf2b8", func := "loop.example/g01103/laws.FnExactIsBestOrder", spec := "fnExactIsBestOrder", unfollowed := true, recurses := true, apart := false, narrowed := true }
def FnExactIsBestOrderUptoSaid : Prop := fnExactIsBestOrderUptoRow.holds Try.pinned (OpenSpec.upto fnExactIsBestOrderSpec)

/-- 'laws.FnExactCountBest', WHERE WHAT IT READS IS OF BULK AT MOST 1048576: true; the input reads as it did. -/
def fnExactCountBestUptoRow : OpenClaim := { program := "ytgiecjcgidgpfaa", sum := "e56ac0a672ad22f5a7088886df48c917011d5d8a5dcb22806b106196da3cf2b8", func := "loop.example/g01103/laws.FnExactCountBest", spec := "fnExactCountBest", unfollowed := true, recurses := true, apart := false, narrowed := true }
def FnExactCountBestUptoSaid : Prop := fnExactCountBestUptoRow.holds Try.pinned (OpenSpec.upto fnExactCountBestSpec)

/-- 'laws.FnTies', WHERE WHAT IT READS IS OF BULK AT MOST 1048576: true; the input reads as it did. -/
def fnTiesUptoRow : OpenClaim := { program := "ytgiecjcgidgpfaa", sum := "e56ac0a672ad22f5a7088886df48c917011d5d8a5dcb22806b106196da3cf2b8", func := "loop.example/g01103/laws.FnTies", spec := "fnTies", unfollowed := true, recurses := true, apart := false, narrowed := true }
def FnTiesUptoSaid : Prop := fnTiesUptoRow.holds Try.pinned (OpenSpec.upto fnTiesSpec)

/-- 'laws.FnRuledOrders', WHERE WHAT IT READS IS OF BULK AT MOST 1048576: true; the input reads as it did. -/
def fnRuledOrdersUptoRow : OpenClaim := { program := "ytgiecjcgidgpfaa", sum := "e56ac0a672ad22f5a7088886df48c917011d5d8a5dcb22806b106196da3cf2b8", func := "loop.example/g01103/laws.FnRuledOrders", spec := "fnRuledOrders", unfollowed := true, recurses := true, apart := false, narrowed := true }
def FnRuledOrdersUptoSaid : Prop := fnRuledOrdersUptoRow.holds Try.pinned (OpenSpec.upto fnRuledOrdersSpec)

/-- 'laws.FnPairLoss', WHERE WHAT IT READS IS OF BULK AT MOST 1048576: true; the input reads as it did. -/
def fnPairLossUptoRow : OpenClaim := { program := "ytgiecjcgidgpfaa", sum := "e56ac0a672ad22f5a7088886df48c917011d5d8a5dcb22806b106196da3cf2b8", func := "loop.example/g01103/laws.FnPairLoss", spec := "fnPairLoss", unfollowed := true, recurses := true, apart := false, narrowed := true }
def FnPairLossUptoSaid : Prop := fnPairLossUptoRow.holds Try.pinned (OpenSpec.upto fnPairLossSpec)

/-- 'laws.FnSorting', WHERE WHAT IT READS IS OF BULK AT MOST 1048576: true; the input reads as it did. -/
def fnSortingUptoRow : OpenClaim := { program := "ytgiecjcgidgpfaa", sum := "e56ac0a672ad22f5a7088886df48c917011d5d8a5dcb22806b106196da3cf2b8", func := "loop.example/g01103/laws.FnSorting", spec := "fnSorting", unfollowed := true, recurses := true, apart := false, narrowed := true }
def FnSortingUptoSaid : Prop := fnSortingUptoRow.holds Try.pinned (OpenSpec.upto fnSortingSpec)

end Rows
end Go.Proofs.Ytgiecjcgidgpfaa
