/-
  No cell of these rows narrows 'for every input' (looked for: loops, veiled, ifaces, maps, wideKeys, modest, calm, conditions, laid).
  DERIVED. THE GIVEN ROWS OF THIS SEAT. 9 by the template 'for every input the law returns true; each argument reads behind the call as it read before'; 0 by the template 'total and deterministic' (their statements: YtdhndoccdfbefaaTotals.lean).
  GIVEN WITH THE SEED: the statements are not yours to turn. If you find one false, say at which input.
  Laid BY PROGRAM, IN A SANDBOX (cutbox-rows.mjs): the forced cells as the released guide's own fill.sh prints them over the translation 71964aa027dc08f3… (all of the seat's roots in one cut). By AI agents, Wed Nov 11 2026. No macro, syntax, notation, axiom, sorry.
-/
import Derived.Test.YtdhndoccdfbefaaChecked
import GoSem.Claim
import GoSem.ClaimJoined
import GoSem.ClaimMapViews
import Derived.JoinedTies
import Derived.KernelRfl
namespace Go.Proofs.Ytdhndoccdfbefaa
/- THE CELL 'sum', in the pinned program and in every row, IS THE sha256 OF THE DUMP (.gsa) THAT YtdhndoccdfbefaaProg.lean LOADS. Nothing in Lean hashes anything: it is a label: what it is worth is what the hold of that sum in a sandbox is worth. -/
noncomputable def Try.pinned : Pinned := { name := "ytdhndoccdfbefaa", sum := "71964aa027dc08f3b61c649fcf124c02cd48646d2ad579e5ddf8e19af463d0d9", checked := Try.checked }
namespace Rows
def none {H : Type} : Left H := { results := [], args := [] }

/-- 'laws.FnExactIsShop': WHATEVER THE INPUT: true; the input reads as it did. -/
def fnExactIsShopSpec : ChangeSpec := { name := "fnExactIsShop", fn := fun _ => fun
  | [d] => { results := [.lit (.bool true)], args := [d] }
  | _ => none }
def fnExactIsShopRow : OpenClaim := { program := "ytdhndoccdfbefaa", sum := "71964aa027dc08f3b61c649fcf124c02cd48646d2ad579e5ddf8e19af463d0d9", func := "loop.example/g01103/laws.FnExactIsShop", spec := "fnExactIsShop", unfollowed := true, recurses := true, apart := false }
def FnExactIsShopSaid : Prop := fnExactIsShopRow.holds Try.pinned (OpenSpec.ofChange fnExactIsShopSpec)

/-- ITS FALSE NEIGHBOUR: 'it returns false'. Refute it at one input. -/
def fnExactIsShopWrong : ChangeSpec := { name := "fnExactIsShop", fn := fun _ => fun
  | [d] => { results := [.lit (.bool false)], args := [d] }
  | _ => none }
def FnExactIsShopWrongFalsely : Prop := fnExactIsShopRow.holds Try.pinned (OpenSpec.ofChange fnExactIsShopWrong)

/-- 'laws.FnExactMiddleIsShort': WHATEVER THE INPUT: true; the input reads as it did. -/
def fnExactMiddleIsShortSpec : ChangeSpec := { name := "fnExactMiddleIsShort", fn := fun _ => fun
  | [d] => { results := [.lit (.bool true)], args := [d] }
  | _ => none }
def fnExactMiddleIsShortRow : OpenClaim := { program := "ytdhndoccdfbefaa", sum := "71964aa027dc08f3b61c649fcf124c02cd48646d2ad579e5ddf8e19af463d0d9", func := "loop.example/g01103/laws.FnExactMiddleIsShort", spec := "fnExactMiddleIsShort", unfollowed := true, recurses := true, apart := false }
def FnExactMiddleIsShortSaid : Prop := fnExactMiddleIsShortRow.holds Try.pinned (OpenSpec.ofChange fnExactMiddleIsShortSpec)

/-- ITS FALSE NEIGHBOUR: 'it returns false'. Refute it at one input. -/
def fnExactMiddleIsShortWrong : ChangeSpec := { name := "fnExactMiddleIsShort", fn := fun _ => fun
  | [d] => { results := [.lit (.bool false)], args := [d] }
  | _ => none }
def FnExactMiddleIsShortWrongFalsely : Prop := fnExactMiddleIsShortRow.holds Try.pinned (OpenSpec.ofChange fnExactMiddleIsShortWrong)

/-- 'laws.FnExactIsJohnsonSorted': WHATEVER THE INPUT: true; the input reads as it did. -/
def fnExactIsJohnsonSortedSpec : ChangeSpec := { name := "fnExactIsJohnsonSorted", fn := fun _ => fun
  | [d1, d2] => { results := [.lit (.bool true)], args := [d1, d2] }
  | _ => none }
def fnExactIsJohnsonSortedRow : OpenClaim := { program := "ytdhndoccdfbefaa", sum := "71964aa027dc08f3b61c649fcf124c02cd48646d2ad579e5ddf8e19af463d0d9", func := "loop.example/g01103/laws.FnExactIsJohnsonSorted", spec := "fnExactIsJohnsonSorted", unfollowed := true, recurses := true, apart := false }
def FnExactIsJohnsonSortedSaid : Prop := fnExactIsJohnsonSortedRow.holds Try.pinned (OpenSpec.ofChange fnExactIsJohnsonSortedSpec)

/-- ITS FALSE NEIGHBOUR: 'it returns false'. Refute it at one input. -/
def fnExactIsJohnsonSortedWrong : ChangeSpec := { name := "fnExactIsJohnsonSorted", fn := fun _ => fun
  | [d1, d2] => { results := [.lit (.bool false)], args := [d1, d2] }
  | _ => none }
def FnExactIsJohnsonSortedWrongFalsely : Prop := fnExactIsJohnsonSortedRow.holds Try.pinned (OpenSpec.ofChange fnExactIsJohnsonSortedWrong)

/-- 'laws.FnExactFlowSpan': WHATEVER THE INPUT: true; the input reads as it did. -/
def fnExactFlowSpanSpec : ChangeSpec := { name := "fnExactFlowSpan", fn := fun _ => fun
  | [d1, d2] => { results := [.lit (.bool true)], args := [d1, d2] }
  | _ => none }
def fnExactFlowSpanRow : OpenClaim := { program := "ytdhndoccdfbefaa", sum := "71964aa027dc08f3b61c649fcf124c02cd48646d2ad579e5ddf8e19af463d0d9", func := "loop.example/g01103/laws.FnExactFlowSpan", spec := "fnExactFlowSpan", unfollowed := true, recurses := true, apart := false }
def FnExactFlowSpanSaid : Prop := fnExactFlowSpanRow.holds Try.pinned (OpenSpec.ofChange fnExactFlowSpanSpec)

/-- ITS FALSE NEIGHBOUR: 'it returns false'. Refute it at one input. -/
def fnExactFlowSpanWrong : ChangeSpec := { name := "fnExactFlowSpan", fn := fun _ => fun
  | [d1, d2] => { results := [.lit (.bool false)], args := [d1, d2] }
  | _ => none }
def FnExactFlowSpanWrongFalsely : Prop := fnExactFlowSpanRow.holds Try.pinned (OpenSpec.ofChange fnExactFlowSpanWrong)

/-- 'laws.FnExactFlowEnds': WHATEVER THE INPUT: true; the input reads as it did. -/
def fnExactFlowEndsSpec : ChangeSpec := { name := "fnExactFlowEnds", fn := fun _ => fun
  | [d1, d2] => { results := [.lit (.bool true)], args := [d1, d2] }
  | _ => none }
def fnExactFlowEndsRow : OpenClaim := { program := "ytdhndoccdfbefaa", sum := "71964aa027dc08f3b61c649fcf124c02cd48646d2ad579e5ddf8e19af463d0d9", func := "loop.example/g01103/laws.FnExactFlowEnds", spec := "fnExactFlowEnds", unfollowed := true, recurses := true, apart := false }
def FnExactFlowEndsSaid : Prop := fnExactFlowEndsRow.holds Try.pinned (OpenSpec.ofChange fnExactFlowEndsSpec)

/-- ITS FALSE NEIGHBOUR: 'it returns false'. Refute it at one input. -/
def fnExactFlowEndsWrong : ChangeSpec := { name := "fnExactFlowEnds", fn := fun _ => fun
  | [d1, d2] => { results := [.lit (.bool false)], args := [d1, d2] }
  | _ => none }
def FnExactFlowEndsWrongFalsely : Prop := fnExactFlowEndsRow.holds Try.pinned (OpenSpec.ofChange fnExactFlowEndsWrong)

/-- 'laws.FnExactStairLength': WHATEVER THE INPUT: true; the input reads as it did. -/
def fnExactStairLengthSpec : ChangeSpec := { name := "fnExactStairLength", fn := fun _ => fun
  | [d1, d2, d3] => { results := [.lit (.bool true)], args := [d1, d2, d3] }
  | _ => none }
def fnExactStairLengthRow : OpenClaim := { program := "ytdhndoccdfbefaa", sum := "71964aa027dc08f3b61c649fcf124c02cd48646d2ad579e5ddf8e19af463d0d9", func := "loop.example/g01103/laws.FnExactStairLength", spec := "fnExactStairLength", unfollowed := true, recurses := true, apart := false }
def FnExactStairLengthSaid : Prop := fnExactStairLengthRow.holds Try.pinned (OpenSpec.ofChange fnExactStairLengthSpec)

/-- ITS FALSE NEIGHBOUR: 'it returns false'. Refute it at one input. -/
def fnExactStairLengthWrong : ChangeSpec := { name := "fnExactStairLength", fn := fun _ => fun
  | [d1, d2, d3] => { results := [.lit (.bool false)], args := [d1, d2, d3] }
  | _ => none }
def FnExactStairLengthWrongFalsely : Prop := fnExactStairLengthRow.holds Try.pinned (OpenSpec.ofChange fnExactStairLengthWrong)

/-- 'laws.FnExactShopLoad': WHATEVER THE INPUT: true; the input reads as it did. -/
def fnExactShopLoadSpec : ChangeSpec := { name := "fnExactShopLoad", fn := fun _ => fun
  | [d] => { results := [.lit (.bool true)], args := [d] }
  | _ => none }
def fnExactShopLoadRow : OpenClaim := { program := "ytdhndoccdfbefaa", sum := "71964aa027dc08f3b61c649fcf124c02cd48646d2ad579e5ddf8e19af463d0d9", func := "loop.example/g01103/laws.FnExactShopLoad", spec := "fnExactShopLoad", unfollowed := true, recurses := true, apart := false }
def FnExactShopLoadSaid : Prop := fnExactShopLoadRow.holds Try.pinned (OpenSpec.ofChange fnExactShopLoadSpec)

/-- ITS FALSE NEIGHBOUR: 'it returns false'. Refute it at one input. -/
def fnExactShopLoadWrong : ChangeSpec := { name := "fnExactShopLoad", fn := fun _ => fun
  | [d] => { results := [.lit (.bool false)], args := [d] }
  | _ => none }
def FnExactShopLoadWrongFalsely : Prop := fnExactShopLoadRow.holds Try.pinned (OpenSpec.ofChange fnExactShopLoadWrong)

/-- 'laws.FnExactFlowBound': WHATEVER THE INPUT: true; the input reads as it did. -/
def fnExactFlowBoundSpec : ChangeSpec := { name := "fnExactFlowBound", fn := fun _ => fun
  | [d] => { results := [.lit (.bool true)], args := [d] }
  | _ => none }
def fnExactFlowBoundRow : OpenClaim := { program := "ytdhndoccdfbefaa", sum := "71964aa027dc08f3b61c649fcf124c02cd48646d2ad579e5ddf8e19af463d0d9", func := "loop.example/g01103/laws.FnExactFlowBound", spec := "fnExactFlowBound", unfollowed := true, recurses := true, apart := false }
def FnExactFlowBoundSaid : Prop := fnExactFlowBoundRow.holds Try.pinned (OpenSpec.ofChange fnExactFlowBoundSpec)

/-- ITS FALSE NEIGHBOUR: 'it returns false'. Refute it at one input. -/
def fnExactFlowBoundWrong : ChangeSpec := { name := "fnExactFlowBound", fn := fun _ => fun
  | [d] => { results := [.lit (.bool false)], args := [d] }
  | _ => none }
def FnExactFlowBoundWrongFalsely : Prop := fnExactFlowBoundRow.holds Try.pinned (OpenSpec.ofChange fnExactFlowBoundWrong)

/-- 'laws.FnExactIsOpenSchedule': WHATEVER THE INPUT: true; the input reads as it did. -/
def fnExactIsOpenScheduleSpec : ChangeSpec := { name := "fnExactIsOpenSchedule", fn := fun _ => fun
  | [d1, d2] => { results := [.lit (.bool true)], args := [d1, d2] }
  | _ => none }
def fnExactIsOpenScheduleRow : OpenClaim := { program := "ytdhndoccdfbefaa", sum := "71964aa027dc08f3b61c649fcf124c02cd48646d2ad579e5ddf8e19af463d0d9", func := "loop.example/g01103/laws.FnExactIsOpenSchedule", spec := "fnExactIsOpenSchedule", unfollowed := true, recurses := true, apart := false }
def FnExactIsOpenScheduleSaid : Prop := fnExactIsOpenScheduleRow.holds Try.pinned (OpenSpec.ofChange fnExactIsOpenScheduleSpec)

/-- ITS FALSE NEIGHBOUR: 'it returns false'. Refute it at one input. -/
def fnExactIsOpenScheduleWrong : ChangeSpec := { name := "fnExactIsOpenSchedule", fn := fun _ => fun
  | [d1, d2] => { results := [.lit (.bool false)], args := [d1, d2] }
  | _ => none }
def FnExactIsOpenScheduleWrongFalsely : Prop := fnExactIsOpenScheduleRow.holds Try.pinned (OpenSpec.ofChange fnExactIsOpenScheduleWrong)

/- THE SECOND FORM. 'bulk': how many values and letters a reading holds, each counted each time it is reached (what is shared counts as often as it is met; a slice's spare places count too). A statement '..UptoSaid' is the law's where the arguments, and the package variables that the reading takes, are together of bulk at most 1048576: NARROWER than '..Said'. Prove '..Said' where nothing that the law and all that it calls make is longer than what came in: it says more and counts as full. Else prove '..UptoSaid'. A law counts once. -/
mutual
def uptoBulk {H : Type} : DataW H → Nat
  | .lit (.string bytes) => bytes.length + 1
  | .lit _ => 1
  | .nil => 1
  | .ptr d => uptoBulk d + 1
  | .slice elems spare => uptoBulkAll elems + uptoBulkAll spare + 1
  | .agg parts => uptoBulkAll parts + 1
  | .iface _ d => uptoBulk d + 1
  | .map entries => uptoBulkEntries entries + 1
  | .held _ => 1
def uptoBulkAll {H : Type} : List (DataW H) → Nat
  | [] => 0
  | d :: r => uptoBulk d + uptoBulkAll r
def uptoBulkEntries {H : Type} : List (Lit × DataW H) → Nat
  | [] => 0
  | x :: r => uptoBulkEntry x + uptoBulkEntries r
def uptoBulkEntry {H : Type} : Lit × DataW H → Nat
  | (.string bytes, d) => bytes.length + uptoBulk d + 1
  | (_, d) => uptoBulk d + 1
 end
def uptoSmall : (H : Type) → List (DataW H) → Bool := fun _ ds => decide (uptoBulkAll ds ≤ 1048576)
def OpenSpec.upto (s : _root_.Go.ChangeSpec) : _root_.Go.OpenSpec := { _root_.Go.OpenSpec.ofChange s with cond := some uptoSmall }

/-- 'laws.FnExactIsShop', WHERE WHAT IT READS IS OF BULK AT MOST 1048576: true; the input reads as it did. -/
def fnExactIsShopUptoRow : OpenClaim := { program := "ytdhndoccdfbefaa", sum := "71964aa027dc08f3b61c649fcf124c02cd48646d2ad579e5ddf8e19af463d0d9", func := "loop.example/g01103/laws.FnExactIsShop", spec := "fnExactIsShop", unfollowed := true, recurses := true, apart := false, narrowed := true }
def FnExactIsShopUptoSaid : Prop := fnExactIsShopUptoRow.holds Try.pinned (OpenSpec.upto fnExactIsShopSpec)

/-- 'laws.FnExactMiddleIsShort', WHERE WHAT IT READS IS OF BULK AT MOST 1048576: true; the input reads as it did. -/
def fnExactMiddleIsShortUptoRow : OpenClaim := { program := "ytdhndoccdfbefaa", sum := "71964aa027dc08f3b61c649fcf124c02cd48646d2ad579e5ddf8e19af463d0d9", func := "loop.example/g01103/laws.FnExactMiddleIsShort", spec := "fnExactMiddleIsShort", unfollowed := true, recurses := true, apart := false, narrowed := true }
def FnExactMiddleIsShortUptoSaid : Prop := fnExactMiddleIsShortUptoRow.holds Try.pinned (OpenSpec.upto fnExactMiddleIsShortSpec)

/-- 'laws.FnExactIsJohnsonSorted', WHERE WHAT IT READS IS OF BULK AT MOST 1048576: true; the input reads as it did. -/
def fnExactIsJohnsonSortedUptoRow : OpenClaim := { program := "ytdhndoccdfbefaa", sum := "71964aa027dc08f3b61c649fcf124c02cd48646d2ad579e5ddf8e19af463d0d9", func := "loop.example/g01103/laws.FnExactIsJohnsonSorted", spec := "fnExactIsJohnsonSorted", unfollowed := true, recurses := true, apart := false, narrowed := true }
def FnExactIsJohnsonSortedUptoSaid : Prop := fnExactIsJohnsonSortedUptoRow.holds Try.pinned (OpenSpec.upto fnExactIsJohnsonSortedSpec)

/-- 'laws.FnExactFlowSpan', WHERE WHAT IT READS IS OF BULK AT MOST 1048576: true; the input reads as it did. -/
def fnExactFlowSpanUptoRow : OpenClaim := { program := "ytdhndoccdfbefaa", sum := "71964aa027dc08f3b61c649fcf124c02cd48646d2ad579e5ddf8e19af463d0d9", func := "loop.example/g01103/laws.FnExactFlowSpan", spec := "fnExactFlowSpan", unfollowed := true, recurses := true, apart := false, narrowed := true }
def FnExactFlowSpanUptoSaid : Prop := fnExactFlowSpanUptoRow.holds Try.pinned (OpenSpec.upto fnExactFlowSpanSpec)

/-- 'laws.FnExactFlowEnds', WHERE WHAT IT READS IS OF BULK AT MOST 1048576: true; the input reads as it did. -/
def fnExactFlowEndsUptoRow : OpenClaim := { program := "ytdhndoccdfbefaa", sum := "71964aa027dc08f3b61c649fcf124c02cd48646d2ad579e5ddf8e19af463d0d9", func := "loop.example/g01103/laws.FnExactFlowEnds", spec := "fnExactFlowEnds", unfollowed := true, recurses := true, apart := false, narrowed := true }
def FnExactFlowEndsUptoSaid : Prop := fnExactFlowEndsUptoRow.holds Try.pinned (OpenSpec.upto fnExactFlowEndsSpec)

/-- 'laws.FnExactStairLength', WHERE WHAT IT READS IS OF BULK AT MOST 1048576: true; the input reads as it did. -/
def fnExactStairLengthUptoRow : OpenClaim := { program := "ytdhndoccdfbefaa", sum := "71964aa027dc08f3b61c649fcf124c02cd48646d2ad579e5ddf8e19af463d0d9", func := "loop.example/g01103/laws.FnExactStairLength", spec := "fnExactStairLength", unfollowed := true, recurses := true, apart := false, narrowed := true }
def FnExactStairLengthUptoSaid : Prop := fnExactStairLengthUptoRow.holds Try.pinned (OpenSpec.upto fnExactStairLengthSpec)

/-- 'laws.FnExactShopLoad', WHERE WHAT IT READS IS OF BULK AT MOST 1048576: true; the input reads as it did. -/
def fnExactShopLoadUptoRow : OpenClaim := { program := "ytdhndoccdfbefaa", sum := "71964aa027dc08f3b61c649fcf124c02cd48646d2ad579e5ddf8e19af463d0d9", func := "loop.example/g01103/laws.FnExactShopLoad", spec := "fnExactShopLoad", unfollowed := true, recurses := true, apart := false, narrowed := true }
def FnExactShopLoadUptoSaid : Prop := fnExactShopLoadUptoRow.holds Try.pinned (OpenSpec.upto fnExactShopLoadSpec)

/-- 'laws.FnExactFlowBound', WHERE WHAT IT READS IS OF BULK AT MOST 1048576: true; the input reads as it did. -/
def fnExactFlowBoundUptoRow : OpenClaim := { program := "ytdhndoccdfbefaa", sum := "71964aa027dc08f3b61c649fcf124c02cd48646d2ad579e5ddf8e19af463d0d9", func := "loop.example/g01103/laws.FnExactFlowBound", spec := "fnExactFlowBound", unfollowed := true, recurses := true, apart := false, narrowed := true }
def FnExactFlowBoundUptoSaid : Prop := fnExactFlowBoundUptoRow.holds Try.pinned (OpenSpec.upto fnExactFlowBoundSpec)

/-- 'laws.FnExactIsOpenSchedule', WHERE WHAT IT READS IS OF BULK AT MOST 1048576: true; the input reads as it did. -/
def fnExactIsOpenScheduleUptoRow : OpenClaim := { program := "ytdhndoccdfbefaa", sum := "71964aa027dc08f3b61c649fcf124c02cd48646d2ad579e5ddf8e19af463d0d9", func := "loop.example/g01103/laws.FnExactIsOpenSchedule", spec := "fnExactIsOpenSchedule", unfollowed := true, recurses := true, apart := false, narrowed := true }
def FnExactIsOpenScheduleUptoSaid : Prop := fnExactIsOpenScheduleUptoRow.holds Try.pinned (OpenSpec.upto fnExactIsOpenScheduleSpec)

end Rows
end Go.Proofs.Ytdhndoccdfbefaa
