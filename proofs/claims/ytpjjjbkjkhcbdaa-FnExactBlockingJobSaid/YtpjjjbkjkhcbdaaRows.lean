/-
  No cell of these rows narrows 'for every input' (looked for: loops, veiled, ifaces, maps, wideKeys, modest, calm, conditions, laid).
  DERIVED. THE GIVEN ROWS OF THIS SEAT. 14 by the template 'for every input the law returns true; each argument reads behind the call as it read before'; 0 by the template 'total and deterministic' (their statements: YtpjjjbkjkhcbdaaTotals.lean).
  GIVEN WITH THE SEED: the statements are not yours to turn. If you find one false, say at which input.
  Laid BY PROGRAM, IN A SANDBOX (cutbox-rows.mjs): the forced cells as the released guide's own fill.sh prints them over the translation c577e620976073bb… (all of the seat's roots in one cut). By AI agents, Wed Nov 11 2026. No macro, syntax, notation, axiom, sorry.
-/
import Derived.Test.YtpjjjbkjkhcbdaaChecked
import GoSem.Claim
import GoSem.ClaimJoined
import GoSem.ClaimMapViews
import Derived.JoinedTies
import Derived.KernelRfl
namespace Go.Proofs.Ytpjjjbkjkhcbdaa
/- THE CELL 'sum', in the pinned program and in every row, IS THE sha256 OF THE DUMP (.gsa) THAT YtpjjjbkjkhcbdaaProg.lean LOADS. Nothing in Lean hashes anything: it is a label: what it is worth is what the hold of that sum in a sandbox is worth. -/
noncomputable def Try.pinned : Pinned := { name := "ytpjjjbkjkhcbdaa", sum := "c577e620976073bb6dae7f41a2fe2387e4b1e56db51f2ee4754a066f03acd837", checked := Try.checked }
namespace Rows
def none {H : Type} : Left H := { results := [], args := [] }

/-- 'laws.FnExactIsSplit': WHATEVER THE INPUT: true; the input reads as it did. -/
def fnExactIsSplitSpec : ChangeSpec := { name := "fnExactIsSplit", fn := fun _ => fun
  | [d1, d2] => { results := [.lit (.bool true)], args := [d1, d2] }
  | _ => none }
def fnExactIsSplitRow : OpenClaim := { program := "ytpjjjbkjkhcbdaa", sum := "c577e620976073bb6dae7f41a2fe2387e4b1e56db51f2ee4754a066f03acd837", func := "loop.example/g01103/laws.FnExactIsSplit", spec := "fnExactIsSplit", unfollowed := true, recurses := true, apart := false }
def FnExactIsSplitSaid : Prop := fnExactIsSplitRow.holds Try.pinned (OpenSpec.ofChange fnExactIsSplitSpec)

/-- ITS FALSE NEIGHBOUR: 'it returns false'. Refute it at one input. -/
def fnExactIsSplitWrong : ChangeSpec := { name := "fnExactIsSplit", fn := fun _ => fun
  | [d1, d2] => { results := [.lit (.bool false)], args := [d1, d2] }
  | _ => none }
def FnExactIsSplitWrongFalsely : Prop := fnExactIsSplitRow.holds Try.pinned (OpenSpec.ofChange fnExactIsSplitWrong)

/-- 'laws.FnExactSplitEnds': WHATEVER THE INPUT: true; the input reads as it did. -/
def fnExactSplitEndsSpec : ChangeSpec := { name := "fnExactSplitEnds", fn := fun _ => fun
  | [d1, d2] => { results := [.lit (.bool true)], args := [d1, d2] }
  | _ => none }
def fnExactSplitEndsRow : OpenClaim := { program := "ytpjjjbkjkhcbdaa", sum := "c577e620976073bb6dae7f41a2fe2387e4b1e56db51f2ee4754a066f03acd837", func := "loop.example/g01103/laws.FnExactSplitEnds", spec := "fnExactSplitEnds", unfollowed := true, recurses := true, apart := false }
def FnExactSplitEndsSaid : Prop := fnExactSplitEndsRow.holds Try.pinned (OpenSpec.ofChange fnExactSplitEndsSpec)

/-- ITS FALSE NEIGHBOUR: 'it returns false'. Refute it at one input. -/
def fnExactSplitEndsWrong : ChangeSpec := { name := "fnExactSplitEnds", fn := fun _ => fun
  | [d1, d2] => { results := [.lit (.bool false)], args := [d1, d2] }
  | _ => none }
def FnExactSplitEndsWrongFalsely : Prop := fnExactSplitEndsRow.holds Try.pinned (OpenSpec.ofChange fnExactSplitEndsWrong)

/-- 'laws.FnExactSplitValue': WHATEVER THE INPUT: true; the input reads as it did. -/
def fnExactSplitValueSpec : ChangeSpec := { name := "fnExactSplitValue", fn := fun _ => fun
  | [d1, d2, d3] => { results := [.lit (.bool true)], args := [d1, d2, d3] }
  | _ => none }
def fnExactSplitValueRow : OpenClaim := { program := "ytpjjjbkjkhcbdaa", sum := "c577e620976073bb6dae7f41a2fe2387e4b1e56db51f2ee4754a066f03acd837", func := "loop.example/g01103/laws.FnExactSplitValue", spec := "fnExactSplitValue", unfollowed := true, recurses := true, apart := false }
def FnExactSplitValueSaid : Prop := fnExactSplitValueRow.holds Try.pinned (OpenSpec.ofChange fnExactSplitValueSpec)

/-- ITS FALSE NEIGHBOUR: 'it returns false'. Refute it at one input. -/
def fnExactSplitValueWrong : ChangeSpec := { name := "fnExactSplitValue", fn := fun _ => fun
  | [d1, d2, d3] => { results := [.lit (.bool false)], args := [d1, d2, d3] }
  | _ => none }
def FnExactSplitValueWrongFalsely : Prop := fnExactSplitValueRow.holds Try.pinned (OpenSpec.ofChange fnExactSplitValueWrong)

/-- 'laws.FnExactSplitOf': WHATEVER THE INPUT: true; the input reads as it did. -/
def fnExactSplitOfSpec : ChangeSpec := { name := "fnExactSplitOf", fn := fun _ => fun
  | [d1, d2] => { results := [.lit (.bool true)], args := [d1, d2] }
  | _ => none }
def fnExactSplitOfRow : OpenClaim := { program := "ytpjjjbkjkhcbdaa", sum := "c577e620976073bb6dae7f41a2fe2387e4b1e56db51f2ee4754a066f03acd837", func := "loop.example/g01103/laws.FnExactSplitOf", spec := "fnExactSplitOf", unfollowed := true, recurses := true, apart := false }
def FnExactSplitOfSaid : Prop := fnExactSplitOfRow.holds Try.pinned (OpenSpec.ofChange fnExactSplitOfSpec)

/-- ITS FALSE NEIGHBOUR: 'it returns false'. Refute it at one input. -/
def fnExactSplitOfWrong : ChangeSpec := { name := "fnExactSplitOf", fn := fun _ => fun
  | [d1, d2] => { results := [.lit (.bool false)], args := [d1, d2] }
  | _ => none }
def FnExactSplitOfWrongFalsely : Prop := fnExactSplitOfRow.holds Try.pinned (OpenSpec.ofChange fnExactSplitOfWrong)

/-- 'laws.FnExactCountBreaks': WHATEVER THE INPUT: true; the input reads as it did. -/
def fnExactCountBreaksSpec : ChangeSpec := { name := "fnExactCountBreaks", fn := fun _ => fun
  | [d1, d2] => { results := [.lit (.bool true)], args := [d1, d2] }
  | _ => none }
def fnExactCountBreaksRow : OpenClaim := { program := "ytpjjjbkjkhcbdaa", sum := "c577e620976073bb6dae7f41a2fe2387e4b1e56db51f2ee4754a066f03acd837", func := "loop.example/g01103/laws.FnExactCountBreaks", spec := "fnExactCountBreaks", unfollowed := true, recurses := true, apart := false }
def FnExactCountBreaksSaid : Prop := fnExactCountBreaksRow.holds Try.pinned (OpenSpec.ofChange fnExactCountBreaksSpec)

/-- ITS FALSE NEIGHBOUR: 'it returns false'. Refute it at one input. -/
def fnExactCountBreaksWrong : ChangeSpec := { name := "fnExactCountBreaks", fn := fun _ => fun
  | [d1, d2] => { results := [.lit (.bool false)], args := [d1, d2] }
  | _ => none }
def FnExactCountBreaksWrongFalsely : Prop := fnExactCountBreaksRow.holds Try.pinned (OpenSpec.ofChange fnExactCountBreaksWrong)

/-- 'laws.FnExactByLeastRest': WHATEVER THE INPUT: true; the input reads as it did. -/
def fnExactByLeastRestSpec : ChangeSpec := { name := "fnExactByLeastRest", fn := fun _ => fun
  | [d] => { results := [.lit (.bool true)], args := [d] }
  | _ => none }
def fnExactByLeastRestRow : OpenClaim := { program := "ytpjjjbkjkhcbdaa", sum := "c577e620976073bb6dae7f41a2fe2387e4b1e56db51f2ee4754a066f03acd837", func := "loop.example/g01103/laws.FnExactByLeastRest", spec := "fnExactByLeastRest", unfollowed := true, recurses := true, apart := false }
def FnExactByLeastRestSaid : Prop := fnExactByLeastRestRow.holds Try.pinned (OpenSpec.ofChange fnExactByLeastRestSpec)

/-- ITS FALSE NEIGHBOUR: 'it returns false'. Refute it at one input. -/
def fnExactByLeastRestWrong : ChangeSpec := { name := "fnExactByLeastRest", fn := fun _ => fun
  | [d] => { results := [.lit (.bool false)], args := [d] }
  | _ => none }
def FnExactByLeastRestWrongFalsely : Prop := fnExactByLeastRestRow.holds Try.pinned (OpenSpec.ofChange fnExactByLeastRestWrong)

/-- 'laws.FnExactByEarliestDate': WHATEVER THE INPUT: true; the input reads as it did. -/
def fnExactByEarliestDateSpec : ChangeSpec := { name := "fnExactByEarliestDate", fn := fun _ => fun
  | [d] => { results := [.lit (.bool true)], args := [d] }
  | _ => none }
def fnExactByEarliestDateRow : OpenClaim := { program := "ytpjjjbkjkhcbdaa", sum := "c577e620976073bb6dae7f41a2fe2387e4b1e56db51f2ee4754a066f03acd837", func := "loop.example/g01103/laws.FnExactByEarliestDate", spec := "fnExactByEarliestDate", unfollowed := true, recurses := true, apart := false }
def FnExactByEarliestDateSaid : Prop := fnExactByEarliestDateRow.holds Try.pinned (OpenSpec.ofChange fnExactByEarliestDateSpec)

/-- ITS FALSE NEIGHBOUR: 'it returns false'. Refute it at one input. -/
def fnExactByEarliestDateWrong : ChangeSpec := { name := "fnExactByEarliestDate", fn := fun _ => fun
  | [d] => { results := [.lit (.bool false)], args := [d] }
  | _ => none }
def FnExactByEarliestDateWrongFalsely : Prop := fnExactByEarliestDateRow.holds Try.pinned (OpenSpec.ofChange fnExactByEarliestDateWrong)

/-- 'laws.FnExactSplitGain': WHATEVER THE INPUT: true; the input reads as it did. -/
def fnExactSplitGainSpec : ChangeSpec := { name := "fnExactSplitGain", fn := fun _ => fun
  | [d1, d2] => { results := [.lit (.bool true)], args := [d1, d2] }
  | _ => none }
def fnExactSplitGainRow : OpenClaim := { program := "ytpjjjbkjkhcbdaa", sum := "c577e620976073bb6dae7f41a2fe2387e4b1e56db51f2ee4754a066f03acd837", func := "loop.example/g01103/laws.FnExactSplitGain", spec := "fnExactSplitGain", unfollowed := true, recurses := true, apart := false }
def FnExactSplitGainSaid : Prop := fnExactSplitGainRow.holds Try.pinned (OpenSpec.ofChange fnExactSplitGainSpec)

/-- ITS FALSE NEIGHBOUR: 'it returns false'. Refute it at one input. -/
def fnExactSplitGainWrong : ChangeSpec := { name := "fnExactSplitGain", fn := fun _ => fun
  | [d1, d2] => { results := [.lit (.bool false)], args := [d1, d2] }
  | _ => none }
def FnExactSplitGainWrongFalsely : Prop := fnExactSplitGainRow.holds Try.pinned (OpenSpec.ofChange fnExactSplitGainWrong)

/-- 'laws.FnExactPrefixBound': WHATEVER THE INPUT: true; the input reads as it did. -/
def fnExactPrefixBoundSpec : ChangeSpec := { name := "fnExactPrefixBound", fn := fun _ => fun
  | [d1, d2, d3] => { results := [.lit (.bool true)], args := [d1, d2, d3] }
  | _ => none }
def fnExactPrefixBoundRow : OpenClaim := { program := "ytpjjjbkjkhcbdaa", sum := "c577e620976073bb6dae7f41a2fe2387e4b1e56db51f2ee4754a066f03acd837", func := "loop.example/g01103/laws.FnExactPrefixBound", spec := "fnExactPrefixBound", unfollowed := true, recurses := true, apart := false }
def FnExactPrefixBoundSaid : Prop := fnExactPrefixBoundRow.holds Try.pinned (OpenSpec.ofChange fnExactPrefixBoundSpec)

/-- ITS FALSE NEIGHBOUR: 'it returns false'. Refute it at one input. -/
def fnExactPrefixBoundWrong : ChangeSpec := { name := "fnExactPrefixBound", fn := fun _ => fun
  | [d1, d2, d3] => { results := [.lit (.bool false)], args := [d1, d2, d3] }
  | _ => none }
def FnExactPrefixBoundWrongFalsely : Prop := fnExactPrefixBoundRow.holds Try.pinned (OpenSpec.ofChange fnExactPrefixBoundWrong)

/-- 'laws.FnExactGreedyOrder': WHATEVER THE INPUT: true; the input reads as it did. -/
def fnExactGreedyOrderSpec : ChangeSpec := { name := "fnExactGreedyOrder", fn := fun _ => fun
  | [d] => { results := [.lit (.bool true)], args := [d] }
  | _ => none }
def fnExactGreedyOrderRow : OpenClaim := { program := "ytpjjjbkjkhcbdaa", sum := "c577e620976073bb6dae7f41a2fe2387e4b1e56db51f2ee4754a066f03acd837", func := "loop.example/g01103/laws.FnExactGreedyOrder", spec := "fnExactGreedyOrder", unfollowed := true, recurses := true, apart := false }
def FnExactGreedyOrderSaid : Prop := fnExactGreedyOrderRow.holds Try.pinned (OpenSpec.ofChange fnExactGreedyOrderSpec)

/-- ITS FALSE NEIGHBOUR: 'it returns false'. Refute it at one input. -/
def fnExactGreedyOrderWrong : ChangeSpec := { name := "fnExactGreedyOrder", fn := fun _ => fun
  | [d] => { results := [.lit (.bool false)], args := [d] }
  | _ => none }
def FnExactGreedyOrderWrongFalsely : Prop := fnExactGreedyOrderRow.holds Try.pinned (OpenSpec.ofChange fnExactGreedyOrderWrong)

/-- 'laws.FnExactCriticalPart': WHATEVER THE INPUT: true; the input reads as it did. -/
def fnExactCriticalPartSpec : ChangeSpec := { name := "fnExactCriticalPart", fn := fun _ => fun
  | [d] => { results := [.lit (.bool true)], args := [d] }
  | _ => none }
def fnExactCriticalPartRow : OpenClaim := { program := "ytpjjjbkjkhcbdaa", sum := "c577e620976073bb6dae7f41a2fe2387e4b1e56db51f2ee4754a066f03acd837", func := "loop.example/g01103/laws.FnExactCriticalPart", spec := "fnExactCriticalPart", unfollowed := true, recurses := true, apart := false }
def FnExactCriticalPartSaid : Prop := fnExactCriticalPartRow.holds Try.pinned (OpenSpec.ofChange fnExactCriticalPartSpec)

/-- ITS FALSE NEIGHBOUR: 'it returns false'. Refute it at one input. -/
def fnExactCriticalPartWrong : ChangeSpec := { name := "fnExactCriticalPart", fn := fun _ => fun
  | [d] => { results := [.lit (.bool false)], args := [d] }
  | _ => none }
def FnExactCriticalPartWrongFalsely : Prop := fnExactCriticalPartRow.holds Try.pinned (OpenSpec.ofChange fnExactCriticalPartWrong)

/-- 'laws.FnExactBlockingJob': WHATEVER THE INPUT: true; the input reads as it did. -/
def fnExactBlockingJobSpec : ChangeSpec := { name := "fnExactBlockingJob", fn := fun _ => fun
  | [d] => { results := [.lit (.bool true)], args := [d] }
  | _ => none }
def fnExactBlockingJobRow : OpenClaim := { program := "ytpjjjbkjkhcbdaa", sum := "c577e620976073bb6dae7f41a2fe2387e4b1e56db51f2ee4754a066f03acd837", func := "loop.example/g01103/laws.FnExactBlockingJob", spec := "fnExactBlockingJob", unfollowed := true, recurses := true, apart := false }
def FnExactBlockingJobSaid : Prop := fnExactBlockingJobRow.holds Try.pinned (OpenSpec.ofChange fnExactBlockingJobSpec)

/-- ITS FALSE NEIGHBOUR: 'it returns false'. Refute it at one input. -/
def fnExactBlockingJobWrong : ChangeSpec := { name := "fnExactBlockingJob", fn := fun _ => fun
  | [d] => { results := [.lit (.bool false)], args := [d] }
  | _ => none }
def FnExactBlockingJobWrongFalsely : Prop := fnExactBlockingJobRow.holds Try.pinned (OpenSpec.ofChange fnExactBlockingJobWrong)

/-- 'laws.FnExactTieGroups': WHATEVER THE INPUT: true; the input reads as it did. -/
def fnExactTieGroupsSpec : ChangeSpec := { name := "fnExactTieGroups", fn := fun _ => fun
  | [d1, d2] => { results := [.lit (.bool true)], args := [d1, d2] }
  | _ => none }
def fnExactTieGroupsRow : OpenClaim := { program := "ytpjjjbkjkhcbdaa", sum := "c577e620976073bb6dae7f41a2fe2387e4b1e56db51f2ee4754a066f03acd837", func := "loop.example/g01103/laws.FnExactTieGroups", spec := "fnExactTieGroups", unfollowed := true, recurses := true, apart := false }
def FnExactTieGroupsSaid : Prop := fnExactTieGroupsRow.holds Try.pinned (OpenSpec.ofChange fnExactTieGroupsSpec)

/-- ITS FALSE NEIGHBOUR: 'it returns false'. Refute it at one input. -/
def fnExactTieGroupsWrong : ChangeSpec := { name := "fnExactTieGroups", fn := fun _ => fun
  | [d1, d2] => { results := [.lit (.bool false)], args := [d1, d2] }
  | _ => none }
def FnExactTieGroupsWrongFalsely : Prop := fnExactTieGroupsRow.holds Try.pinned (OpenSpec.ofChange fnExactTieGroupsWrong)

/-- 'laws.FnExactCountRuled': WHATEVER THE INPUT: true; the input reads as it did. -/
def fnExactCountRuledSpec : ChangeSpec := { name := "fnExactCountRuled", fn := fun _ => fun
  | [d1, d2] => { results := [.lit (.bool true)], args := [d1, d2] }
  | _ => none }
def fnExactCountRuledRow : OpenClaim := { program := "ytpjjjbkjkhcbdaa", sum := "c577e620976073bb6dae7f41a2fe2387e4b1e56db51f2ee4754a066f03acd837", func := "loop.example/g01103/laws.FnExactCountRuled", spec := "fnExactCountRuled", unfollowed := true, recurses := true, apart := false }
def FnExactCountRuledSaid : Prop := fnExactCountRuledRow.holds Try.pinned (OpenSpec.ofChange fnExactCountRuledSpec)

/-- ITS FALSE NEIGHBOUR: 'it returns false'. Refute it at one input. -/
def fnExactCountRuledWrong : ChangeSpec := { name := "fnExactCountRuled", fn := fun _ => fun
  | [d1, d2] => { results := [.lit (.bool false)], args := [d1, d2] }
  | _ => none }
def FnExactCountRuledWrongFalsely : Prop := fnExactCountRuledRow.holds Try.pinned (OpenSpec.ofChange fnExactCountRuledWrong)

/- THE SECOND FORM. 'bulk': how many values and letters a reading holds, each counted each time it is reached (what is shared counts as often as it is met; a slice's spare places count too). A statement '..UptoSaid' is the law's where the arguments, and the package variables that the reading takes, are together of bulk at most 1048576: NARROWER than '..Said'. Prove '..Said' where nothing that the law and all that it calls make is longer than what came in: it says more and counts as full. Else prove '..UptoSaid'. A law counts once. -/
mutual
def uptoBulk {H : Type} : DataW H → Nat
  | .lit (.string bytes) => bytes.length + 1
  | .lit _ => 1
  | .nil => 1
  | .ptr d => uptoBulk d + 1
  | .slice elems spare => uptoBulkAll elems + uptoBulkAll spare + 1
  | .agg parts => uptoBulkAll parts + 1
  | .iface _ d => uptoBulk d + 1
  | .map entries => uptoBulkEntries entries + 1
  | .held _ => 1
def uptoBulkAll {H : Type} : List (DataW H) → Nat
  | [] => 0
  | d :: r => uptoBulk d + uptoBulkAll r
def uptoBulkEntries {H : Type} : List (Lit × DataW H) → Nat
  | [] => 0
  | x :: r => uptoBulkEntry x + uptoBulkEntries r
def uptoBulkEntry {H : Type} : Lit × DataW H → Nat
  | (.string bytes, d) => bytes.length + uptoBulk d + 1
  | (_, d) => uptoBulk d + 1
 end
def uptoSmall : (H : Type) → List (DataW H) → Bool := fun _ ds => decide (uptoBulkAll ds ≤ 1048576)
def OpenSpec.upto (s : _root_.Go.ChangeSpec) : _root_.Go.OpenSpec := { _root_.Go.OpenSpec.ofChange s with cond := some uptoSmall }

/-- 'laws.FnExactIsSplit', WHERE WHAT IT READS IS OF BULK AT MOST 1048576: true; the input reads as it did. -/
def fnExactIsSplitUptoRow : OpenClaim := { program := "ytpjjjbkjkhcbdaa", sum := "c577e620976073bb6dae7f41a2fe2387e4b1e56db51f2ee4754a066f03acd837", func := "loop.example/g01103/laws.FnExactIsSplit", spec := "fnExactIsSplit", unfollowed := true, recurses := true, apart := false, narrowed := true }
def FnExactIsSplitUptoSaid : Prop := fnExactIsSplitUptoRow.holds Try.pinned (OpenSpec.upto fnExactIsSplitSpec)

/-- 'laws.FnExactSplitEnds', WHERE WHAT IT READS IS OF BULK AT MOST 1048576: true; the input reads as it did. -/
def fnExactSplitEndsUptoRow : OpenClaim := { program := "ytpjjjbkjkhcbdaa", sum := "c577e620976073bb6dae7f41a2fe2387e4b1e56db51f2ee4754a066f03acd837", func := "loop.example/g01103/laws.FnExactSplitEnds", spec := "fnExactSplitEnds", unfollowed := true, recurses := true, apart := false, narrowed := true }
def FnExactSplitEndsUptoSaid : Prop := fnExactSplitEndsUptoRow.holds Try.pinned (OpenSpec.upto fnExactSplitEndsSpec)

/-- 'laws.FnExactSplitValue', WHERE WHAT IT READS IS OF BULK AT MOST 1048576: true; the input reads as it did. -/
def fnExactSplitValueUptoRow : OpenClaim := { program := "ytpjjjbkjkhcbdaa", sum := "c577e620976073bb6dae7f41a2fe2387e4b1e56db51f2ee4754a066f03acd837", func := "loop.example/g01103/laws.FnExactSplitValue", spec := "fnExactSplitValue", unfollowed := true, recurses := true, apart := false, narrowed := true }
def FnExactSplitValueUptoSaid : Prop := fnExactSplitValueUptoRow.holds Try.pinned (OpenSpec.upto fnExactSplitValueSpec)

/-- 'laws.FnExactSplitOf', WHERE WHAT IT READS IS OF BULK AT MOST 1048576: true; the input reads as it did. -/
def fnExactSplitOfUptoRow : OpenClaim := { program := "ytpjjjbkjkhcbdaa", sum := "c577e620976073bb6dae7f41a2fe2387e4b1e56db51f2ee4754a066f03acd837", func := "loop.example/g01103/laws.FnExactSplitOf", spec := "fnExactSplitOf", unfollowed := true, recurses := true, apart := false, narrowed := true }
def FnExactSplitOfUptoSaid : Prop := fnExactSplitOfUptoRow.holds Try.pinned (OpenSpec.upto fnExactSplitOfSpec)

/-- 'laws.FnExactCountBreaks', WHERE WHAT IT READS IS OF BULK AT MOST 1048576: true; the input reads as it did. -/
def fnExactCountBreaksUptoRow : OpenClaim := { program := "ytpjjjbkjkhcbdaa", sum := "c577e620976073bb6dae7f41a2fe2387e4b1e56db51f2ee4754a066f03acd837", func := "loop.example/g01103/laws.FnExactCountBreaks", spec := "fnExactCountBreaks", unfollowed := true, recurses := true, apart := false, narrowed := true }
def FnExactCountBreaksUptoSaid : Prop := fnExactCountBreaksUptoRow.holds Try.pinned (OpenSpec.upto fnExactCountBreaksSpec)

/-- 'laws.FnExactByLeastRest', WHERE WHAT IT READS IS OF BULK AT MOST 1048576: true; the input reads as it did. -/
def fnExactByLeastRestUptoRow : OpenClaim := { program := "ytpjjjbkjkhcbdaa", sum := "c577e620976073bb6dae7f41a2fe2387e4b1e56db51f2ee4754a066f03acd837", func := "loop.example/g01103/laws.FnExactByLeastRest", spec := "fnExactByLeastRest", unfollowed := true, recurses := true, apart := false, narrowed := true }
def FnExactByLeastRestUptoSaid : Prop := fnExactByLeastRestUptoRow.holds Try.pinned (OpenSpec.upto fnExactByLeastRestSpec)

/-- 'laws.FnExactByEarliestDate', WHERE WHAT IT READS IS OF BULK AT MOST 1048576: true; the input reads as it did. -/
def fnExactByEarliestDateUptoRow : OpenClaim := { program := "ytpjjjbkjkhcbdaa", sum := "c577e620976073bb6dae7f41a2fe2387e4b1e56db51f2ee4754a066f03acd837", func := "loop.example/g01103/laws.FnExactByEarliestDate", spec := "fnExactByEarliestDate", unfollowed := true, recurses := true, apart := false, narrowed := true }
def FnExactByEarliestDateUptoSaid : Prop := fnExactByEarliestDateUptoRow.holds Try.pinned (OpenSpec.upto fnExactByEarliestDateSpec)

/-- 'laws.FnExactSplitGain', WHERE WHAT IT READS IS OF BULK AT MOST 1048576: true; the input reads as it did. -/
def fnExactSplitGainUptoRow : OpenClaim := { program := "ytpjjjbkjkhcbdaa", sum := "c577e620976073bb6dae7f41a2fe2387e4b1e56db51f2ee4754a066f03acd837", func := "loop.example/g01103/laws.FnExactSplitGain", spec := "fnExactSplitGain", unfollowed := true, recurses := true, apart := false, narrowed := true }
def FnExactSplitGainUptoSaid : Prop := fnExactSplitGainUptoRow.holds Try.pinned (OpenSpec.upto fnExactSplitGainSpec)

/-- 'laws.FnExactPrefixBound', WHERE WHAT IT READS IS OF BULK AT MOST 1048576: true; the input reads as it did. -/
def fnExactPrefixBoundUptoRow : OpenClaim := { program := "ytpjjjbkjkhcbdaa", sum := "c577e620976073bb6dae7f41a2fe2387e4b1e56db51f2ee4754a066f03acd837", func := "loop.example/g01103/laws.FnExactPrefixBound", spec := "fnExactPrefixBound", unfollowed := true, recurses := true, apart := false, narrowed := true }
def FnExactPrefixBoundUptoSaid : Prop := fnExactPrefixBoundUptoRow.holds Try.pinned (OpenSpec.upto fnExactPrefixBoundSpec)

/-- 'laws.FnExactGreedyOrder', WHERE WHAT IT READS IS OF BULK AT MOST 1048576: true; the input reads as it did. -/
def fnExactGreedyOrderUptoRow : OpenClaim := { program := "ytpjjjbkjkhcbdaa", sum := "c577e620976073bb6dae7f41a2fe2387e4b1e56db51f2ee4754a066f03acd837", func := "loop.example/g01103/laws.FnExactGreedyOrder", spec := "fnExactGreedyOrder", unfollowed := true, recurses := true, apart := false, narrowed := true }
def FnExactGreedyOrderUptoSaid : Prop := fnExactGreedyOrderUptoRow.holds Try.pinned (OpenSpec.upto fnExactGreedyOrderSpec)

/-- 'laws.FnExactCriticalPart', WHERE WHAT IT READS IS OF BULK AT MOST 1048576: true; the input reads as it did. -/
def fnExactCriticalPartUptoRow : OpenClaim := { program := "ytpjjjbkjkhcbdaa", sum := "c577e620976073bb6dae7f41a2fe2387e4b1e56db51f2ee4754a066f03acd837", func := "loop.example/g01103/laws.FnExactCriticalPart", spec := "fnExactCriticalPart", unfollowed := true, recurses := true, apart := false, narrowed := true }
def FnExactCriticalPartUptoSaid : Prop := fnExactCriticalPartUptoRow.holds Try.pinned (OpenSpec.upto fnExactCriticalPartSpec)

/-- 'laws.FnExactBlockingJob', WHERE WHAT IT READS IS OF BULK AT MOST 1048576: true; the input reads as it did. -/
def fnExactBlockingJobUptoRow : OpenClaim := { program := "ytpjjjbkjkhcbdaa", sum := "c577e620976073bb6dae7f41a2fe2387e4b1e56db51f2ee4754a066f03acd837", func := "loop.example/g01103/laws.FnExactBlockingJob", spec := "fnExactBlockingJob", unfollowed := true, recurses := true, apart := false, narrowed := true }
def FnExactBlockingJobUptoSaid : Prop := fnExactBlockingJobUptoRow.holds Try.pinned (OpenSpec.upto fnExactBlockingJobSpec)

/-- 'laws.FnExactTieGroups', WHERE WHAT IT READS IS OF BULK AT MOST 1048576: true; the input reads as it did. -/
def fnExactTieGroupsUptoRow : OpenClaim := { program := "ytpjjjbkjkhcbdaa", sum := "c577e620976073bb6dae7f41a2fe2387e4b1e56db51f2ee4754a066f03acd837", func := "loop.example/g01103/laws.FnExactTieGroups", spec := "fnExactTieGroups", unfollowed := true, recurses := true, apart := false, narrowed := true }
def FnExactTieGroupsUptoSaid : Prop := fnExactTieGroupsUptoRow.holds Try.pinned (OpenSpec.upto fnExactTieGroupsSpec)

/-- 'laws.FnExactCountRuled', WHERE WHAT IT READS IS OF BULK AT MOST 1048576: true; the input reads as it did. -/
def fnExactCountRuledUptoRow : OpenClaim := { program := "ytpjjjbkjkhcbdaa", sum := "c577e620976073bb6dae7f41a2fe2387e4b1e56db51f2ee4754a066f03acd837", func := "loop.example/g01103/laws.FnExactCountRuled", spec := "fnExactCountRuled", unfollowed := true, recurses := true, apart := false, narrowed := true }
def FnExactCountRuledUptoSaid : Prop := fnExactCountRuledUptoRow.holds Try.pinned (OpenSpec.upto fnExactCountRuledSpec)

end Rows
end Go.Proofs.Ytpjjjbkjkhcbdaa
