/-
  NARROWER THAN 'FOR EVERY INPUT', by the rows' own cells (each row's printed sentence says how): FnExactDemandOf: laid · FnExactSupplyOf: laid · FnExactShortSet: laid · FnExactIsBalanced: laid · FnExactIsOrderVector: laid · FnExactUnitRank: laid · FnExactUnitGreedy: laid · FnExactUnitCircuit: laid · FnExactUnitSlots: laid · FnExactLongerWithout: laid.
  DERIVED. THE GIVEN ROWS OF THIS SEAT. 10 by the template 'for every input the law returns true; each argument reads behind the call as it read before'; 0 by the template 'total and deterministic' (their statements: YtpoibjmkbljblaaDoorTotals.lean).
  GIVEN WITH THE SEED: the statements are not yours to turn. If you find one false, say at which input.
  Laid BY PROGRAM, IN A SANDBOX (cutbox-rows.mjs): the forced cells as the released guide's own fill.sh prints them over the translation b2c88e62ada561cf… (all of the seat's roots in one cut). By AI agents, Wed Nov 11 2026. No macro, syntax, notation, axiom, sorry.
-/
import Derived.Test.YtpoibjmkbljblaaDoorChecked
import GoSem.Claim
import GoSem.ClaimJoined
import GoSem.ClaimMapViews
import Derived.JoinedTies
import Derived.KernelRfl
namespace Go.Proofs.YtpoibjmkbljblaaDoor
/- THE CELL 'sum', in the pinned program and in every row, IS THE sha256 OF THE DUMP (.gsa) THAT YtpoibjmkbljblaaDoorProg.lean LOADS. Nothing in Lean hashes anything: it is a label: what it is worth is what the hold of that sum in a sandbox is worth. -/
noncomputable def Tryd.pinned : Pinned := { name := "ytpoibjmkbljblaadoor", sum := "b2c88e62ada561cfc663a2a33bfd27d3a184ddc6ec2aef50b4f3f3cdb7b4f63a", checked := Tryd.checked }
namespace Rows
def none {H : Type} : Left H := { results := [], args := [] }

/- WHAT THE LISTED PACKAGE-LEVEL VARIABLES READ AS WHEN THE CALL BEGINS. Each datum BY PROGRAM (the guide's laid-datum.mjs) off the statement by which the dump's own 'gosem.cut.vars' lays the variable. In a bare row this is a premise. The card (YtpoibjmkbljblaaDoorCards.lean) ties it to the program's text. -/
def laid_math_bits_deBruijn32tab {H : Type} : DataW H := .agg [.lit (.int .u8 0), .lit (.int .u8 1), .lit (.int .u8 28), .lit (.int .u8 2), .lit (.int .u8 29), .lit (.int .u8 14), .lit (.int .u8 24), .lit (.int .u8 3), .lit (.int .u8 30), .lit (.int .u8 22), .lit (.int .u8 20), .lit (.int .u8 15), .lit (.int .u8 25), .lit (.int .u8 17), .lit (.int .u8 4), .lit (.int .u8 8), .lit (.int .u8 31), .lit (.int .u8 27), .lit (.int .u8 13), .lit (.int .u8 23), .lit (.int .u8 21), .lit (.int .u8 19), .lit (.int .u8 16), .lit (.int .u8 7), .lit (.int .u8 26), .lit (.int .u8 12), .lit (.int .u8 18), .lit (.int .u8 6), .lit (.int .u8 11), .lit (.int .u8 5), .lit (.int .u8 10), .lit (.int .u8 9)]
def laid_math_bits_deBruijn64tab {H : Type} : DataW H := .agg [.lit (.int .u8 0), .lit (.int .u8 1), .lit (.int .u8 56), .lit (.int .u8 2), .lit (.int .u8 57), .lit (.int .u8 49), .lit (.int .u8 28), .lit (.int .u8 3), .lit (.int .u8 61), .lit (.int .u8 58), .lit (.int .u8 42), .lit (.int .u8 50), .lit (.int .u8 38), .lit (.int .u8 29), .lit (.int .u8 17), .lit (.int .u8 4), .lit (.int .u8 62), .lit (.int .u8 47), .lit (.int .u8 59), .lit (.int .u8 36), .lit (.int .u8 45), .lit (.int .u8 43), .lit (.int .u8 51), .lit (.int .u8 22), .lit (.int .u8 53), .lit (.int .u8 39), .lit (.int .u8 33), .lit (.int .u8 30), .lit (.int .u8 24), .lit (.int .u8 18), .lit (.int .u8 12), .lit (.int .u8 5), .lit (.int .u8 63), .lit (.int .u8 55), .lit (.int .u8 48), .lit (.int .u8 27), .lit (.int .u8 60), .lit (.int .u8 41), .lit (.int .u8 37), .lit (.int .u8 16), .lit (.int .u8 46), .lit (.int .u8 35), .lit (.int .u8 44), .lit (.int .u8 21), .lit (.int .u8 52), .lit (.int .u8 32), .lit (.int .u8 23), .lit (.int .u8 11), .lit (.int .u8 54), .lit (.int .u8 26), .lit (.int .u8 40), .lit (.int .u8 15), .lit (.int .u8 34), .lit (.int .u8 20), .lit (.int .u8 31), .lit (.int .u8 10), .lit (.int .u8 25), .lit (.int .u8 14), .lit (.int .u8 19), .lit (.int .u8 9), .lit (.int .u8 13), .lit (.int .u8 8), .lit (.int .u8 7), .lit (.int .u8 6)]

/-- 'laws.FnExactDemandOf': WHATEVER THE INPUT: true; the input reads as it did. -/
def fnExactDemandOfSpec : ChangeSpec := { name := "fnExactDemandOf", fn := fun _ => fun
  | [d1, d2] => { results := [.lit (.bool true)], args := [d1, d2] }
  | _ => none }
def fnExactDemandOfRow : OpenClaim := { program := "ytpoibjmkbljblaadoor", sum := "b2c88e62ada561cfc663a2a33bfd27d3a184ddc6ec2aef50b4f3f3cdb7b4f63a", func := "loop.example/g01103/laws.FnExactDemandOf", spec := "fnExactDemandOf", unfollowed := true, recurses := true, named := ["math/bits.deBruijn32tab", "math/bits.deBruijn64tab"], apart := false, laid := [("math/bits.deBruijn32tab", laid_math_bits_deBruijn32tab), ("math/bits.deBruijn64tab", laid_math_bits_deBruijn64tab)] }
def FnExactDemandOfSaid : Prop := fnExactDemandOfRow.holds Tryd.pinned (OpenSpec.ofChange fnExactDemandOfSpec)

/-- ITS FALSE NEIGHBOUR: 'it returns false'. Refute it at one input. -/
def fnExactDemandOfWrong : ChangeSpec := { name := "fnExactDemandOf", fn := fun _ => fun
  | [d1, d2] => { results := [.lit (.bool false)], args := [d1, d2] }
  | _ => none }
def FnExactDemandOfWrongFalsely : Prop := fnExactDemandOfRow.holds Tryd.pinned (OpenSpec.ofChange fnExactDemandOfWrong)

/-- 'laws.FnExactSupplyOf': WHATEVER THE INPUT: true; the input reads as it did. -/
def fnExactSupplyOfSpec : ChangeSpec := { name := "fnExactSupplyOf", fn := fun _ => fun
  | [d1, d2, d3] => { results := [.lit (.bool true)], args := [d1, d2, d3] }
  | _ => none }
def fnExactSupplyOfRow : OpenClaim := { program := "ytpoibjmkbljblaadoor", sum := "b2c88e62ada561cfc663a2a33bfd27d3a184ddc6ec2aef50b4f3f3cdb7b4f63a", func := "loop.example/g01103/laws.FnExactSupplyOf", spec := "fnExactSupplyOf", unfollowed := true, recurses := true, named := ["math/bits.deBruijn32tab", "math/bits.deBruijn64tab"], apart := false, laid := [("math/bits.deBruijn32tab", laid_math_bits_deBruijn32tab), ("math/bits.deBruijn64tab", laid_math_bits_deBruijn64tab)] }
def FnExactSupplyOfSaid : Prop := fnExactSupplyOfRow.holds Tryd.pinned (OpenSpec.ofChange fnExactSupplyOfSpec)

/-- ITS FALSE NEIGHBOUR: 'it returns false'. Refute it at one input. -/
def fnExactSupplyOfWrong : ChangeSpec := { name := "fnExactSupplyOf", fn := fun _ => fun
  | [d1, d2, d3] => { results := [.lit (.bool false)], args := [d1, d2, d3] }
  | _ => none }
def FnExactSupplyOfWrongFalsely : Prop := fnExactSupplyOfRow.holds Tryd.pinned (OpenSpec.ofChange fnExactSupplyOfWrong)

/-- 'laws.FnExactShortSet': WHATEVER THE INPUT: true; the input reads as it did. -/
def fnExactShortSetSpec : ChangeSpec := { name := "fnExactShortSet", fn := fun _ => fun
  | [d1, d2] => { results := [.lit (.bool true)], args := [d1, d2] }
  | _ => none }
def fnExactShortSetRow : OpenClaim := { program := "ytpoibjmkbljblaadoor", sum := "b2c88e62ada561cfc663a2a33bfd27d3a184ddc6ec2aef50b4f3f3cdb7b4f63a", func := "loop.example/g01103/laws.FnExactShortSet", spec := "fnExactShortSet", unfollowed := true, recurses := true, named := ["math/bits.deBruijn32tab", "math/bits.deBruijn64tab"], apart := false, laid := [("math/bits.deBruijn32tab", laid_math_bits_deBruijn32tab), ("math/bits.deBruijn64tab", laid_math_bits_deBruijn64tab)] }
def FnExactShortSetSaid : Prop := fnExactShortSetRow.holds Tryd.pinned (OpenSpec.ofChange fnExactShortSetSpec)

/-- ITS FALSE NEIGHBOUR: 'it returns false'. Refute it at one input. -/
def fnExactShortSetWrong : ChangeSpec := { name := "fnExactShortSet", fn := fun _ => fun
  | [d1, d2] => { results := [.lit (.bool false)], args := [d1, d2] }
  | _ => none }
def FnExactShortSetWrongFalsely : Prop := fnExactShortSetRow.holds Tryd.pinned (OpenSpec.ofChange fnExactShortSetWrong)

/-- 'laws.FnExactIsBalanced': WHATEVER THE INPUT: true; the input reads as it did. -/
def fnExactIsBalancedSpec : ChangeSpec := { name := "fnExactIsBalanced", fn := fun _ => fun
  | [d1, d2] => { results := [.lit (.bool true)], args := [d1, d2] }
  | _ => none }
def fnExactIsBalancedRow : OpenClaim := { program := "ytpoibjmkbljblaadoor", sum := "b2c88e62ada561cfc663a2a33bfd27d3a184ddc6ec2aef50b4f3f3cdb7b4f63a", func := "loop.example/g01103/laws.FnExactIsBalanced", spec := "fnExactIsBalanced", unfollowed := true, recurses := true, named := ["math/bits.deBruijn32tab", "math/bits.deBruijn64tab"], apart := false, laid := [("math/bits.deBruijn32tab", laid_math_bits_deBruijn32tab), ("math/bits.deBruijn64tab", laid_math_bits_deBruijn64tab)] }
def FnExactIsBalancedSaid : Prop := fnExactIsBalancedRow.holds Tryd.pinned (OpenSpec.ofChange fnExactIsBalancedSpec)

/-- ITS FALSE NEIGHBOUR: 'it returns false'. Refute it at one input. -/
def fnExactIsBalancedWrong : ChangeSpec := { name := "fnExactIsBalanced", fn := fun _ => fun
  | [d1, d2] => { results := [.lit (.bool false)], args := [d1, d2] }
  | _ => none }
def FnExactIsBalancedWrongFalsely : Prop := fnExactIsBalancedRow.holds Tryd.pinned (OpenSpec.ofChange fnExactIsBalancedWrong)

/-- 'laws.FnExactIsOrderVector': WHATEVER THE INPUT: true; the input reads as it did. -/
def fnExactIsOrderVectorSpec : ChangeSpec := { name := "fnExactIsOrderVector", fn := fun _ => fun
  | [d1, d2] => { results := [.lit (.bool true)], args := [d1, d2] }
  | _ => none }
def fnExactIsOrderVectorRow : OpenClaim := { program := "ytpoibjmkbljblaadoor", sum := "b2c88e62ada561cfc663a2a33bfd27d3a184ddc6ec2aef50b4f3f3cdb7b4f63a", func := "loop.example/g01103/laws.FnExactIsOrderVector", spec := "fnExactIsOrderVector", unfollowed := true, recurses := true, named := ["math/bits.deBruijn32tab", "math/bits.deBruijn64tab"], apart := false, laid := [("math/bits.deBruijn32tab", laid_math_bits_deBruijn32tab), ("math/bits.deBruijn64tab", laid_math_bits_deBruijn64tab)] }
def FnExactIsOrderVectorSaid : Prop := fnExactIsOrderVectorRow.holds Tryd.pinned (OpenSpec.ofChange fnExactIsOrderVectorSpec)

/-- ITS FALSE NEIGHBOUR: 'it returns false'. Refute it at one input. -/
def fnExactIsOrderVectorWrong : ChangeSpec := { name := "fnExactIsOrderVector", fn := fun _ => fun
  | [d1, d2] => { results := [.lit (.bool false)], args := [d1, d2] }
  | _ => none }
def FnExactIsOrderVectorWrongFalsely : Prop := fnExactIsOrderVectorRow.holds Tryd.pinned (OpenSpec.ofChange fnExactIsOrderVectorWrong)

/-- 'laws.FnExactUnitRank': WHATEVER THE INPUT: true; the input reads as it did. -/
def fnExactUnitRankSpec : ChangeSpec := { name := "fnExactUnitRank", fn := fun _ => fun
  | [d1, d2] => { results := [.lit (.bool true)], args := [d1, d2] }
  | _ => none }
def fnExactUnitRankRow : OpenClaim := { program := "ytpoibjmkbljblaadoor", sum := "b2c88e62ada561cfc663a2a33bfd27d3a184ddc6ec2aef50b4f3f3cdb7b4f63a", func := "loop.example/g01103/laws.FnExactUnitRank", spec := "fnExactUnitRank", unfollowed := true, recurses := true, named := ["math/bits.deBruijn32tab", "math/bits.deBruijn64tab"], apart := false, laid := [("math/bits.deBruijn32tab", laid_math_bits_deBruijn32tab), ("math/bits.deBruijn64tab", laid_math_bits_deBruijn64tab)] }
def FnExactUnitRankSaid : Prop := fnExactUnitRankRow.holds Tryd.pinned (OpenSpec.ofChange fnExactUnitRankSpec)

/-- ITS FALSE NEIGHBOUR: 'it returns false'. Refute it at one input. -/
def fnExactUnitRankWrong : ChangeSpec := { name := "fnExactUnitRank", fn := fun _ => fun
  | [d1, d2] => { results := [.lit (.bool false)], args := [d1, d2] }
  | _ => none }
def FnExactUnitRankWrongFalsely : Prop := fnExactUnitRankRow.holds Tryd.pinned (OpenSpec.ofChange fnExactUnitRankWrong)

/-- 'laws.FnExactUnitGreedy': WHATEVER THE INPUT: true; the input reads as it did. -/
def fnExactUnitGreedySpec : ChangeSpec := { name := "fnExactUnitGreedy", fn := fun _ => fun
  | [d] => { results := [.lit (.bool true)], args := [d] }
  | _ => none }
def fnExactUnitGreedyRow : OpenClaim := { program := "ytpoibjmkbljblaadoor", sum := "b2c88e62ada561cfc663a2a33bfd27d3a184ddc6ec2aef50b4f3f3cdb7b4f63a", func := "loop.example/g01103/laws.FnExactUnitGreedy", spec := "fnExactUnitGreedy", unfollowed := true, recurses := true, named := ["math/bits.deBruijn32tab", "math/bits.deBruijn64tab"], apart := false, laid := [("math/bits.deBruijn32tab", laid_math_bits_deBruijn32tab), ("math/bits.deBruijn64tab", laid_math_bits_deBruijn64tab)] }
def FnExactUnitGreedySaid : Prop := fnExactUnitGreedyRow.holds Tryd.pinned (OpenSpec.ofChange fnExactUnitGreedySpec)

/-- ITS FALSE NEIGHBOUR: 'it returns false'. Refute it at one input. -/
def fnExactUnitGreedyWrong : ChangeSpec := { name := "fnExactUnitGreedy", fn := fun _ => fun
  | [d] => { results := [.lit (.bool false)], args := [d] }
  | _ => none }
def FnExactUnitGreedyWrongFalsely : Prop := fnExactUnitGreedyRow.holds Tryd.pinned (OpenSpec.ofChange fnExactUnitGreedyWrong)

/-- 'laws.FnExactUnitCircuit': WHATEVER THE INPUT: true; the input reads as it did. -/
def fnExactUnitCircuitSpec : ChangeSpec := { name := "fnExactUnitCircuit", fn := fun _ => fun
  | [d1, d2, d3] => { results := [.lit (.bool true)], args := [d1, d2, d3] }
  | _ => none }
def fnExactUnitCircuitRow : OpenClaim := { program := "ytpoibjmkbljblaadoor", sum := "b2c88e62ada561cfc663a2a33bfd27d3a184ddc6ec2aef50b4f3f3cdb7b4f63a", func := "loop.example/g01103/laws.FnExactUnitCircuit", spec := "fnExactUnitCircuit", unfollowed := true, recurses := true, named := ["math/bits.deBruijn32tab", "math/bits.deBruijn64tab"], apart := false, laid := [("math/bits.deBruijn32tab", laid_math_bits_deBruijn32tab), ("math/bits.deBruijn64tab", laid_math_bits_deBruijn64tab)] }
def FnExactUnitCircuitSaid : Prop := fnExactUnitCircuitRow.holds Tryd.pinned (OpenSpec.ofChange fnExactUnitCircuitSpec)

/-- ITS FALSE NEIGHBOUR: 'it returns false'. Refute it at one input. -/
def fnExactUnitCircuitWrong : ChangeSpec := { name := "fnExactUnitCircuit", fn := fun _ => fun
  | [d1, d2, d3] => { results := [.lit (.bool false)], args := [d1, d2, d3] }
  | _ => none }
def FnExactUnitCircuitWrongFalsely : Prop := fnExactUnitCircuitRow.holds Tryd.pinned (OpenSpec.ofChange fnExactUnitCircuitWrong)

/-- 'laws.FnExactUnitSlots': WHATEVER THE INPUT: true; the input reads as it did. -/
def fnExactUnitSlotsSpec : ChangeSpec := { name := "fnExactUnitSlots", fn := fun _ => fun
  | [d1, d2] => { results := [.lit (.bool true)], args := [d1, d2] }
  | _ => none }
def fnExactUnitSlotsRow : OpenClaim := { program := "ytpoibjmkbljblaadoor", sum := "b2c88e62ada561cfc663a2a33bfd27d3a184ddc6ec2aef50b4f3f3cdb7b4f63a", func := "loop.example/g01103/laws.FnExactUnitSlots", spec := "fnExactUnitSlots", unfollowed := true, recurses := true, named := ["math/bits.deBruijn32tab", "math/bits.deBruijn64tab"], apart := false, laid := [("math/bits.deBruijn32tab", laid_math_bits_deBruijn32tab), ("math/bits.deBruijn64tab", laid_math_bits_deBruijn64tab)] }
def FnExactUnitSlotsSaid : Prop := fnExactUnitSlotsRow.holds Tryd.pinned (OpenSpec.ofChange fnExactUnitSlotsSpec)

/-- ITS FALSE NEIGHBOUR: 'it returns false'. Refute it at one input. -/
def fnExactUnitSlotsWrong : ChangeSpec := { name := "fnExactUnitSlots", fn := fun _ => fun
  | [d1, d2] => { results := [.lit (.bool false)], args := [d1, d2] }
  | _ => none }
def FnExactUnitSlotsWrongFalsely : Prop := fnExactUnitSlotsRow.holds Tryd.pinned (OpenSpec.ofChange fnExactUnitSlotsWrong)

/-- 'laws.FnExactLongerWithout': WHATEVER THE INPUT: true; the input reads as it did. -/
def fnExactLongerWithoutSpec : ChangeSpec := { name := "fnExactLongerWithout", fn := fun _ => fun
  | [d1, d2, d3, d4] => { results := [.lit (.bool true)], args := [d1, d2, d3, d4] }
  | _ => none }
def fnExactLongerWithoutRow : OpenClaim := { program := "ytpoibjmkbljblaadoor", sum := "b2c88e62ada561cfc663a2a33bfd27d3a184ddc6ec2aef50b4f3f3cdb7b4f63a", func := "loop.example/g01103/laws.FnExactLongerWithout", spec := "fnExactLongerWithout", unfollowed := true, recurses := true, named := ["math/bits.deBruijn32tab", "math/bits.deBruijn64tab"], apart := false, laid := [("math/bits.deBruijn32tab", laid_math_bits_deBruijn32tab), ("math/bits.deBruijn64tab", laid_math_bits_deBruijn64tab)] }
def FnExactLongerWithoutSaid : Prop := fnExactLongerWithoutRow.holds Tryd.pinned (OpenSpec.ofChange fnExactLongerWithoutSpec)

/-- ITS FALSE NEIGHBOUR: 'it returns false'. Refute it at one input. -/
def fnExactLongerWithoutWrong : ChangeSpec := { name := "fnExactLongerWithout", fn := fun _ => fun
  | [d1, d2, d3, d4] => { results := [.lit (.bool false)], args := [d1, d2, d3, d4] }
  | _ => none }
def FnExactLongerWithoutWrongFalsely : Prop := fnExactLongerWithoutRow.holds Tryd.pinned (OpenSpec.ofChange fnExactLongerWithoutWrong)

/- THE SECOND FORM. 'bulk': how many values and letters a reading holds, each counted each time it is reached (what is shared counts as often as it is met; a slice's spare places count too). A statement '..UptoSaid' is the law's where the arguments, and the package variables that the reading takes, are together of bulk at most 1048576: NARROWER than '..Said'. Prove '..Said' where nothing that the law and all that it calls make is longer than what came in: it says more and counts as full. Else prove '..UptoSaid'. A law counts once. -/
mutual
def uptoBulk {H : Type} : DataW H → Nat
  | .lit (.string bytes) => bytes.length + 1
  | .lit _ => 1
  | .nil => 1
  | .ptr d => uptoBulk d + 1
  | .slice elems spare => uptoBulkAll elems + uptoBulkAll spare + 1
  | .agg parts => uptoBulkAll parts + 1
  | .iface _ d => uptoBulk d + 1
  | .map entries => uptoBulkEntries entries + 1
  | .held _ => 1
def uptoBulkAll {H : Type} : List (DataW H) → Nat
  | [] => 0
  | d :: r => uptoBulk d + uptoBulkAll r
def uptoBulkEntries {H : Type} : List (Lit × DataW H) → Nat
  | [] => 0
  | x :: r => uptoBulkEntry x + uptoBulkEntries r
def uptoBulkEntry {H : Type} : Lit × DataW H → Nat
  | (.string bytes, d) => bytes.length + uptoBulk d + 1
  | (_, d) => uptoBulk d + 1
 end
def uptoSmall : (H : Type) → List (DataW H) → Bool := fun _ ds => decide (uptoBulkAll ds ≤ 1048576)
def OpenSpec.upto (s : _root_.Go.ChangeSpec) : _root_.Go.OpenSpec := { _root_.Go.OpenSpec.ofChange s with cond := some uptoSmall }

/-- 'laws.FnExactDemandOf', WHERE WHAT IT READS IS OF BULK AT MOST 1048576: true; the input reads as it did. -/
def fnExactDemandOfUptoRow : OpenClaim := { program := "ytpoibjmkbljblaadoor", sum := "b2c88e62ada561cfc663a2a33bfd27d3a184ddc6ec2aef50b4f3f3cdb7b4f63a", func := "loop.example/g01103/laws.FnExactDemandOf", spec := "fnExactDemandOf", unfollowed := true, recurses := true, named := ["math/bits.deBruijn32tab", "math/bits.deBruijn64tab"], apart := false, laid := [("math/bits.deBruijn32tab", laid_math_bits_deBruijn32tab), ("math/bits.deBruijn64tab", laid_math_bits_deBruijn64tab)], narrowed := true }
def FnExactDemandOfUptoSaid : Prop := fnExactDemandOfUptoRow.holds Tryd.pinned (OpenSpec.upto fnExactDemandOfSpec)

/-- 'laws.FnExactSupplyOf', WHERE WHAT IT READS IS OF BULK AT MOST 1048576: true; the input reads as it did. -/
def fnExactSupplyOfUptoRow : OpenClaim := { program := "ytpoibjmkbljblaadoor", sum := "b2c88e62ada561cfc663a2a33bfd27d3a184ddc6ec2aef50b4f3f3cdb7b4f63a", func := "loop.example/g01103/laws.FnExactSupplyOf", spec := "fnExactSupplyOf", unfollowed := true, recurses := true, named := ["math/bits.deBruijn32tab", "math/bits.deBruijn64tab"], apart := false, laid := [("math/bits.deBruijn32tab", laid_math_bits_deBruijn32tab), ("math/bits.deBruijn64tab", laid_math_bits_deBruijn64tab)], narrowed := true }
def FnExactSupplyOfUptoSaid : Prop := fnExactSupplyOfUptoRow.holds Tryd.pinned (OpenSpec.upto fnExactSupplyOfSpec)

/-- 'laws.FnExactShortSet', WHERE WHAT IT READS IS OF BULK AT MOST 1048576: true; the input reads as it did. -/
def fnExactShortSetUptoRow : OpenClaim := { program := "ytpoibjmkbljblaadoor", sum := "b2c88e62ada561cfc663a2a33bfd27d3a184ddc6ec2aef50b4f3f3cdb7b4f63a", func := "loop.example/g01103/laws.FnExactShortSet", spec := "fnExactShortSet", unfollowed := true, recurses := true, named := ["math/bits.deBruijn32tab", "math/bits.deBruijn64tab"], apart := false, laid := [("math/bits.deBruijn32tab", laid_math_bits_deBruijn32tab), ("math/bits.deBruijn64tab", laid_math_bits_deBruijn64tab)], narrowed := true }
def FnExactShortSetUptoSaid : Prop := fnExactShortSetUptoRow.holds Tryd.pinned (OpenSpec.upto fnExactShortSetSpec)

/-- 'laws.FnExactIsBalanced', WHERE WHAT IT READS IS OF BULK AT MOST 1048576: true; the input reads as it did. -/
def fnExactIsBalancedUptoRow : OpenClaim := { program := "ytpoibjmkbljblaadoor", sum := "b2c88e62ada561cfc663a2a33bfd27d3a184ddc6ec2aef50b4f3f3cdb7b4f63a", func := "loop.example/g01103/laws.FnExactIsBalanced", spec := "fnExactIsBalanced", unfollowed := true, recurses := true, named := ["math/bits.deBruijn32tab", "math/bits.deBruijn64tab"], apart := false, laid := [("math/bits.deBruijn32tab", laid_math_bits_deBruijn32tab), ("math/bits.deBruijn64tab", laid_math_bits_deBruijn64tab)], narrowed := true }
def FnExactIsBalancedUptoSaid : Prop := fnExactIsBalancedUptoRow.holds Tryd.pinned (OpenSpec.upto fnExactIsBalancedSpec)

/-- 'laws.FnExactIsOrderVector', WHERE WHAT IT READS IS OF BULK AT MOST 1048576: true; the input reads as it did. -/
def fnExactIsOrderVectorUptoRow : OpenClaim := { program := "ytpoibjmkbljblaadoor", sum := "b2c88e62ada561cfc663a2a33bfd27d3a184ddc6ec2aef50b4f3f3cdb7b4f63a", func := "loop.example/g01103/laws.FnExactIsOrderVector", spec := "fnExactIsOrderVector", unfollowed := true, recurses := true, named := ["math/bits.deBruijn32tab", "math/bits.deBruijn64tab"], apart := false, laid := [("math/bits.deBruijn32tab", laid_math_bits_deBruijn32tab), ("math/bits.deBruijn64tab", laid_math_bits_deBruijn64tab)], narrowed := true }
def FnExactIsOrderVectorUptoSaid : Prop := fnExactIsOrderVectorUptoRow.holds Tryd.pinned (OpenSpec.upto fnExactIsOrderVectorSpec)

/-- 'laws.FnExactUnitRank', WHERE WHAT IT READS IS OF BULK AT MOST 1048576: true; the input reads as it did. -/
def fnExactUnitRankUptoRow : OpenClaim := { program := "ytpoibjmkbljblaadoor", sum := "b2c88e62ada561cfc663a2a33bfd27d3a184ddc6ec2aef50b4f3f3cdb7b4f63a", func := "loop.example/g01103/laws.FnExactUnitRank", spec := "fnExactUnitRank", unfollowed := true, recurses := true, named := ["math/bits.deBruijn32tab", "math/bits.deBruijn64tab"], apart := false, laid := [("math/bits.deBruijn32tab", laid_math_bits_deBruijn32tab), ("math/bits.deBruijn64tab", laid_math_bits_deBruijn64tab)], narrowed := true }
def FnExactUnitRankUptoSaid : Prop := fnExactUnitRankUptoRow.holds Tryd.pinned (OpenSpec.upto fnExactUnitRankSpec)

/-- 'laws.FnExactUnitGreedy', WHERE WHAT IT READS IS OF BULK AT MOST 1048576: true; the input reads as it did. -/
def fnExactUnitGreedyUptoRow : OpenClaim := { program := "ytpoibjmkbljblaadoor", sum := "b2c88e62ada561cfc663a2a33bfd27d3a184ddc6ec2aef50b4f3f3cdb7b4f63a", func := "loop.example/g01103/laws.FnExactUnitGreedy", spec := "fnExactUnitGreedy", unfollowed := true, recurses := true, named := ["math/bits.deBruijn32tab", "math/bits.deBruijn64tab"], apart := false, laid := [("math/bits.deBruijn32tab", laid_math_bits_deBruijn32tab), ("math/bits.deBruijn64tab", laid_math_bits_deBruijn64tab)], narrowed := true }
def FnExactUnitGreedyUptoSaid : Prop := fnExactUnitGreedyUptoRow.holds Tryd.pinned (OpenSpec.upto fnExactUnitGreedySpec)

/-- 'laws.FnExactUnitCircuit', WHERE WHAT IT READS IS OF BULK AT MOST 1048576: true; the input reads as it did. -/
def fnExactUnitCircuitUptoRow : OpenClaim := { program := "ytpoibjmkbljblaadoor", sum := "b2c88e62ada561cfc663a2a33bfd27d3a184ddc6ec2aef50b4f3f3cdb7b4f63a", func := "loop.example/g01103/laws.FnExactUnitCircuit", spec := "fnExactUnitCircuit", unfollowed := true, recurses := true, named := ["math/bits.deBruijn32tab", "math/bits.deBruijn64tab"], apart := false, laid := [("math/bits.deBruijn32tab", laid_math_bits_deBruijn32tab), ("math/bits.deBruijn64tab", laid_math_bits_deBruijn64tab)], narrowed := true }
def FnExactUnitCircuitUptoSaid : Prop := fnExactUnitCircuitUptoRow.holds Tryd.pinned (OpenSpec.upto fnExactUnitCircuitSpec)

/-- 'laws.FnExactUnitSlots', WHERE WHAT IT READS IS OF BULK AT MOST 1048576: true; the input reads as it did. -/
def fnExactUnitSlotsUptoRow : OpenClaim := { program := "ytpoibjmkbljblaadoor", sum := "b2c88e62ada561cfc663a2a33bfd27d3a184ddc6ec2aef50b4f3f3cdb7b4f63a", func := "loop.example/g01103/laws.FnExactUnitSlots", spec := "fnExactUnitSlots", unfollowed := true, recurses := true, named := ["math/bits.deBruijn32tab", "math/bits.deBruijn64tab"], apart := false, laid := [("math/bits.deBruijn32tab", laid_math_bits_deBruijn32tab), ("math/bits.deBruijn64tab", laid_math_bits_deBruijn64tab)], narrowed := true }
def FnExactUnitSlotsUptoSaid : Prop := fnExactUnitSlotsUptoRow.holds Tryd.pinned (OpenSpec.upto fnExactUnitSlotsSpec)

/-- 'laws.FnExactLongerWithout', WHERE WHAT IT READS IS OF BULK AT MOST 1048576: true; the input reads as it did. -/
def fnExactLongerWithoutUptoRow : OpenClaim := { program := "ytpoibjmkbljblaadoor", sum := "b2c88e62ada561cfc663a2a33bfd27d3a184ddc6ec2aef50b4f3f3cdb7b4f63a", func := "loop.example/g01103/laws.FnExactLongerWithout", spec := "fnExactLongerWithout", unfollowed := true, recurses := true, named := ["math/bits.deBruijn32tab", "math/bits.deBruijn64tab"], apart := false, laid := [("math/bits.deBruijn32tab", laid_math_bits_deBruijn32tab), ("math/bits.deBruijn64tab", laid_math_bits_deBruijn64tab)], narrowed := true }
def FnExactLongerWithoutUptoSaid : Prop := fnExactLongerWithoutUptoRow.holds Tryd.pinned (OpenSpec.upto fnExactLongerWithoutSpec)

end Rows
end Go.Proofs.YtpoibjmkbljblaaDoor
