/-
  NARROWER THAN 'FOR EVERY INPUT', by the rows' own cells (each row's printed sentence says how): FnExactUnitSlots: laid · FnExactLongerWithout: laid · FnExactLabelPlan: laid · FnExactIdleChain: laid · FnExactBackwardOrder: laid · FnExactYieldOf: laid.
  DERIVED. THE GIVEN ROWS OF THIS SEAT. 6 by the template 'for every input the law returns true; each argument reads behind the call as it read before'; 0 by the template 'total and deterministic' (their statements: YtjemjdlaoebffaaDoorTotals.lean).
  GIVEN WITH THE SEED: the statements are not yours to turn. If you find one false, say at which input.
  Laid BY PROGRAM, IN A SANDBOX (cutbox-rows.mjs): the forced cells as the released guide's own fill.sh prints them over the translation 7d55f4724f54a722… (all of the seat's roots in one cut). By AI agents, Wed Nov 11 2026. No macro, syntax, notation, axiom, sorry.
-/
import Derived.Test.YtjemjdlaoebffaaDoorChecked
import GoSem.Claim
import GoSem.ClaimJoined
import GoSem.ClaimMapViews
import Derived.JoinedTies
import Derived.KernelRfl
namespace Go.Proofs.YtjemjdlaoebffaaDoor
/- THE CELL 'sum', in the pinned program and in every row, IS THE sha256 OF THE DUMP (.gsa) THAT YtjemjdlaoebffaaDoorProg.lean LOADS. Nothing in Lean hashes anything: it is a label: what it is worth is what the hold of that sum in a sandbox is worth. -/
noncomputable def Tryd.pinned : Pinned := { name := "ytjemjdlaoebffaadoor", sum := "7d55f4724f54a722a4cd0524223e1ab634fab67a79410d12ac8c6f0c85bd88eb", checked := Tryd.checked }
namespace Rows
def none {H : Type} : Left H := { results := [], args := [] }

/- WHAT THE LISTED PACKAGE-LEVEL VARIABLES READ AS WHEN THE CALL BEGINS. Each datum BY PROGRAM (the guide's laid-datum.mjs) off the statement by which the dump's own 'gosem.cut.vars' lays the variable. In a bare row this is a premise. The card (YtjemjdlaoebffaaDoorCards.lean) ties it to the program's text. -/
def laid_math_bits_deBruijn32tab {H : Type} : DataW H := .agg [.lit (.int .u8 0), .lit (.int .u8 1), .lit (.int .u8 28), .lit (.int .u8 2), .lit (.int .u8 29), .lit (.int .u8 14), .lit (.int .u8 24), .lit (.int .u8 3), .lit (.int .u8 30), .lit (.int .u8 22), .lit (.int .u8 20), .lit (.int .u8 15), .lit (.int .u8 25), .lit (.int .u8 17), .lit (.int .u8 4), .lit (.int .u8 8), .lit (.int .u8 31), .lit (.int .u8 27), .lit (.int .u8 13), .lit (.int .u8 23), .lit (.int .u8 21), .lit (.int .u8 19), .lit (.int .u8 16), .lit (.int .u8 7), .lit (.int .u8 26), .lit (.int .u8 12), .lit (.int .u8 18), .lit (.int .u8 6), .lit (.int .u8 11), .lit (.int .u8 5), .lit (.int .u8 10), .lit (.int .u8 9)]
def laid_math_bits_deBruijn64tab {H : Type} : DataW H := .agg [.lit (.int .u8 0), .lit (.int .u8 1), .lit (.int .u8 56), .lit (.int .u8 2), .lit (.int .u8 57), .lit (.int .u8 49), .lit (.int .u8 28), .lit (.int .u8 3), .lit (.int .u8 61), .lit (.int .u8 58), .lit (.int .u8 42), .lit (.int .u8 50), .lit (.int .u8 38), .lit (.int .u8 29), .lit (.int .u8 17), .lit (.int .u8 4), .lit (.int .u8 62), .lit (.int .u8 47), .lit (.int .u8 59), .lit (.int .u8 36), .lit (.int .u8 45), .lit (.int .u8 43), .lit (.int .u8 51), .lit (.int .u8 22), .lit (.int .u8 53), .lit (.int .u8 39), .lit (.int .u8 33), .lit (.int .u8 30), .lit (.int .u8 24), .lit (.int .u8 18), .lit (.int .u8 12), .lit (.int .u8 5), .lit (.int .u8 63), .lit (.int .u8 55), .lit (.int .u8 48), .lit (.int .u8 27), .lit (.int .u8 60), .lit (.int .u8 41), .lit (.int .u8 37), .lit (.int .u8 16), .lit (.int .u8 46), .lit (.int .u8 35), .lit (.int .u8 44), .lit (.int .u8 21), .lit (.int .u8 52), .lit (.int .u8 32), .lit (.int .u8 23), .lit (.int .u8 11), .lit (.int .u8 54), .lit (.int .u8 26), .lit (.int .u8 40), .lit (.int .u8 15), .lit (.int .u8 34), .lit (.int .u8 20), .lit (.int .u8 31), .lit (.int .u8 10), .lit (.int .u8 25), .lit (.int .u8 14), .lit (.int .u8 19), .lit (.int .u8 9), .lit (.int .u8 13), .lit (.int .u8 8), .lit (.int .u8 7), .lit (.int .u8 6)]

/-- 'laws.FnExactUnitSlots': WHATEVER THE INPUT: true; the input reads as it did. -/
def fnExactUnitSlotsSpec : ChangeSpec := { name := "fnExactUnitSlots", fn := fun _ => fun
  | [d1, d2] => { results := [.lit (.bool true)], args := [d1, d2] }
  | _ => none }
def fnExactUnitSlotsRow : OpenClaim := { program := "ytjemjdlaoebffaadoor", sum := "7d55f4724f54a722a4cd0524223e1ab634fab67a79410d12ac8c6f0c85bd88eb", func := "loop.example/g01103/laws.FnExactUnitSlots", spec := "fnExactUnitSlots", unfollowed := true, recurses := true, named := ["math/bits.deBruijn32tab", "math/bits.deBruijn64tab"], apart := false, laid := [("math/bits.deBruijn32tab", laid_math_bits_deBruijn32tab), ("math/bits.deBruijn64tab", laid_math_bits_deBruijn64tab)] }
def FnExactUnitSlotsSaid : Prop := fnExactUnitSlotsRow.holds Tryd.pinned (OpenSpec.ofChange fnExactUnitSlotsSpec)

/-- ITS FALSE NEIGHBOUR: 'it returns false'. Refute it at one input. -/
def fnExactUnitSlotsWrong : ChangeSpec := { name := "fnExactUnitSlots", fn := fun _ => fun
  | [d1, d2] => { results := [.lit (.bool false)], args := [d1, d2] }
  | _ => none }
def FnExactUnitSlotsWrongFalsely : Prop := fnExactUnitSlotsRow.holds Tryd.pinned (OpenSpec.ofChange fnExactUnitSlotsWrong)

/-- 'laws.FnExactLongerWithout': WHATEVER THE INPUT: true; the input reads as it did. -/
def fnExactLongerWithoutSpec : ChangeSpec := { name := "fnExactLongerWithout", fn := fun _ => fun
  | [d1, d2, d3, d4] => { results := [.lit (.bool true)], args := [d1, d2, d3, d4] }
  | _ => none }
def fnExactLongerWithoutRow : OpenClaim := { program := "ytjemjdlaoebffaadoor", sum := "7d55f4724f54a722a4cd0524223e1ab634fab67a79410d12ac8c6f0c85bd88eb", func := "loop.example/g01103/laws.FnExactLongerWithout", spec := "fnExactLongerWithout", unfollowed := true, recurses := true, named := ["math/bits.deBruijn32tab", "math/bits.deBruijn64tab"], apart := false, laid := [("math/bits.deBruijn32tab", laid_math_bits_deBruijn32tab), ("math/bits.deBruijn64tab", laid_math_bits_deBruijn64tab)] }
def FnExactLongerWithoutSaid : Prop := fnExactLongerWithoutRow.holds Tryd.pinned (OpenSpec.ofChange fnExactLongerWithoutSpec)

/-- ITS FALSE NEIGHBOUR: 'it returns false'. Refute it at one input. -/
def fnExactLongerWithoutWrong : ChangeSpec := { name := "fnExactLongerWithout", fn := fun _ => fun
  | [d1, d2, d3, d4] => { results := [.lit (.bool false)], args := [d1, d2, d3, d4] }
  | _ => none }
def FnExactLongerWithoutWrongFalsely : Prop := fnExactLongerWithoutRow.holds Tryd.pinned (OpenSpec.ofChange fnExactLongerWithoutWrong)

/-- 'laws.FnExactLabelPlan': WHATEVER THE INPUT: true; the input reads as it did. -/
def fnExactLabelPlanSpec : ChangeSpec := { name := "fnExactLabelPlan", fn := fun _ => fun
  | [d1, d2] => { results := [.lit (.bool true)], args := [d1, d2] }
  | _ => none }
def fnExactLabelPlanRow : OpenClaim := { program := "ytjemjdlaoebffaadoor", sum := "7d55f4724f54a722a4cd0524223e1ab634fab67a79410d12ac8c6f0c85bd88eb", func := "loop.example/g01103/laws.FnExactLabelPlan", spec := "fnExactLabelPlan", unfollowed := true, recurses := true, named := ["math/bits.deBruijn32tab", "math/bits.deBruijn64tab"], apart := false, laid := [("math/bits.deBruijn32tab", laid_math_bits_deBruijn32tab), ("math/bits.deBruijn64tab", laid_math_bits_deBruijn64tab)] }
def FnExactLabelPlanSaid : Prop := fnExactLabelPlanRow.holds Tryd.pinned (OpenSpec.ofChange fnExactLabelPlanSpec)

/-- ITS FALSE NEIGHBOUR: 'it returns false'. Refute it at one input. -/
def fnExactLabelPlanWrong : ChangeSpec := { name := "fnExactLabelPlan", fn := fun _ => fun
  | [d1, d2] => { results := [.lit (.bool false)], args := [d1, d2] }
  | _ => none }
def FnExactLabelPlanWrongFalsely : Prop := fnExactLabelPlanRow.holds Tryd.pinned (OpenSpec.ofChange fnExactLabelPlanWrong)

/-- 'laws.FnExactIdleChain': WHATEVER THE INPUT: true; the input reads as it did. -/
def fnExactIdleChainSpec : ChangeSpec := { name := "fnExactIdleChain", fn := fun _ => fun
  | [d1, d2, d3, d4] => { results := [.lit (.bool true)], args := [d1, d2, d3, d4] }
  | _ => none }
def fnExactIdleChainRow : OpenClaim := { program := "ytjemjdlaoebffaadoor", sum := "7d55f4724f54a722a4cd0524223e1ab634fab67a79410d12ac8c6f0c85bd88eb", func := "loop.example/g01103/laws.FnExactIdleChain", spec := "fnExactIdleChain", unfollowed := true, recurses := true, named := ["math/bits.deBruijn32tab", "math/bits.deBruijn64tab"], apart := false, laid := [("math/bits.deBruijn32tab", laid_math_bits_deBruijn32tab), ("math/bits.deBruijn64tab", laid_math_bits_deBruijn64tab)] }
def FnExactIdleChainSaid : Prop := fnExactIdleChainRow.holds Tryd.pinned (OpenSpec.ofChange fnExactIdleChainSpec)

/-- ITS FALSE NEIGHBOUR: 'it returns false'. Refute it at one input. -/
def fnExactIdleChainWrong : ChangeSpec := { name := "fnExactIdleChain", fn := fun _ => fun
  | [d1, d2, d3, d4] => { results := [.lit (.bool false)], args := [d1, d2, d3, d4] }
  | _ => none }
def FnExactIdleChainWrongFalsely : Prop := fnExactIdleChainRow.holds Tryd.pinned (OpenSpec.ofChange fnExactIdleChainWrong)

/-- 'laws.FnExactBackwardOrder': WHATEVER THE INPUT: true; the input reads as it did. -/
def fnExactBackwardOrderSpec : ChangeSpec := { name := "fnExactBackwardOrder", fn := fun _ => fun
  | [d1, d2] => { results := [.lit (.bool true)], args := [d1, d2] }
  | _ => none }
def fnExactBackwardOrderRow : OpenClaim := { program := "ytjemjdlaoebffaadoor", sum := "7d55f4724f54a722a4cd0524223e1ab634fab67a79410d12ac8c6f0c85bd88eb", func := "loop.example/g01103/laws.FnExactBackwardOrder", spec := "fnExactBackwardOrder", unfollowed := true, recurses := true, named := ["math/bits.deBruijn32tab", "math/bits.deBruijn64tab"], apart := false, laid := [("math/bits.deBruijn32tab", laid_math_bits_deBruijn32tab), ("math/bits.deBruijn64tab", laid_math_bits_deBruijn64tab)] }
def FnExactBackwardOrderSaid : Prop := fnExactBackwardOrderRow.holds Tryd.pinned (OpenSpec.ofChange fnExactBackwardOrderSpec)

/-- ITS FALSE NEIGHBOUR: 'it returns false'. Refute it at one input. -/
def fnExactBackwardOrderWrong : ChangeSpec := { name := "fnExactBackwardOrder", fn := fun _ => fun
  | [d1, d2] => { results := [.lit (.bool false)], args := [d1, d2] }
  | _ => none }
def FnExactBackwardOrderWrongFalsely : Prop := fnExactBackwardOrderRow.holds Tryd.pinned (OpenSpec.ofChange fnExactBackwardOrderWrong)

/-- 'laws.FnExactYieldOf': WHATEVER THE INPUT: true; the input reads as it did. -/
def fnExactYieldOfSpec : ChangeSpec := { name := "fnExactYieldOf", fn := fun _ => fun
  | [d1, d2] => { results := [.lit (.bool true)], args := [d1, d2] }
  | _ => none }
def fnExactYieldOfRow : OpenClaim := { program := "ytjemjdlaoebffaadoor", sum := "7d55f4724f54a722a4cd0524223e1ab634fab67a79410d12ac8c6f0c85bd88eb", func := "loop.example/g01103/laws.FnExactYieldOf", spec := "fnExactYieldOf", unfollowed := true, recurses := true, named := ["math/bits.deBruijn32tab", "math/bits.deBruijn64tab"], apart := false, laid := [("math/bits.deBruijn32tab", laid_math_bits_deBruijn32tab), ("math/bits.deBruijn64tab", laid_math_bits_deBruijn64tab)] }
def FnExactYieldOfSaid : Prop := fnExactYieldOfRow.holds Tryd.pinned (OpenSpec.ofChange fnExactYieldOfSpec)

/-- ITS FALSE NEIGHBOUR: 'it returns false'. Refute it at one input. -/
def fnExactYieldOfWrong : ChangeSpec := { name := "fnExactYieldOf", fn := fun _ => fun
  | [d1, d2] => { results := [.lit (.bool false)], args := [d1, d2] }
  | _ => none }
def FnExactYieldOfWrongFalsely : Prop := fnExactYieldOfRow.holds Tryd.pinned (OpenSpec.ofChange fnExactYieldOfWrong)

/- THE SECOND FORM. 'bulk': how many values and letters a reading holds, each counted each time it is reached (what is shared counts as often as it is met; a slice's spare places count too). A statement '..UptoSaid' is the law's where the arguments, and the package variables that the reading takes, are together of bulk at most 1048576: NARROWER than '..Said'. Prove '..Said' where nothing that the law and all that it calls make is longer than what came in: it says more and counts as full. Else prove '..UptoSaid'. A law counts once. -/
mutual
def uptoBulk {H : Type} : DataW H → Nat
  | .lit (.string bytes) => bytes.length + 1
  | .lit _ => 1
  | .nil => 1
  | .ptr d => uptoBulk d + 1
  | .slice elems spare => uptoBulkAll elems + uptoBulkAll spare + 1
  | .agg parts => uptoBulkAll parts + 1
  | .iface _ d => uptoBulk d + 1
  | .map entries => uptoBulkEntries entries + 1
  | .held _ => 1
def uptoBulkAll {H : Type} : List (DataW H) → Nat
  | [] => 0
  | d :: r => uptoBulk d + uptoBulkAll r
def uptoBulkEntries {H : Type} : List (Lit × DataW H) → Nat
  | [] => 0
  | x :: r => uptoBulkEntry x + uptoBulkEntries r
def uptoBulkEntry {H : Type} : Lit × DataW H → Nat
  | (.string bytes, d) => bytes.length + uptoBulk d + 1
  | (_, d) => uptoBulk d + 1
 end
def uptoSmall : (H : Type) → List (DataW H) → Bool := fun _ ds => decide (uptoBulkAll ds ≤ 1048576)
def OpenSpec.upto (s : _root_.Go.ChangeSpec) : _root_.Go.OpenSpec := { _root_.Go.OpenSpec.ofChange s with cond := some uptoSmall }

/-- 'laws.FnExactUnitSlots', WHERE WHAT IT READS IS OF BULK AT MOST 1048576: true; the input reads as it did. -/
def fnExactUnitSlotsUptoRow : OpenClaim := { program := "ytjemjdlaoebffaadoor", sum := "7d55f4724f54a722a4cd0524223e1ab634fab67a79410d12ac8c6f0c85bd88eb", func := "loop.example/g01103/laws.FnExactUnitSlots", spec := "fnExactUnitSlots", unfollowed := true, recurses := true, named := ["math/bits.deBruijn32tab", "math/bits.deBruijn64tab"], apart := false, laid := [("math/bits.deBruijn32tab", laid_math_bits_deBruijn32tab), ("math/bits.deBruijn64tab", laid_math_bits_deBruijn64tab)], narrowed := true }
def FnExactUnitSlotsUptoSaid : Prop := fnExactUnitSlotsUptoRow.holds Tryd.pinned (OpenSpec.upto fnExactUnitSlotsSpec)

/-- 'laws.FnExactLongerWithout', WHERE WHAT IT READS IS OF BULK AT MOST 1048576: true; the input reads as it did. -/
def fnExactLongerWithoutUptoRow : OpenClaim := { program := "ytjemjdlaoebffaadoor", sum := "7d55f4724f54a722a4cd0524223e1ab634fab67a79410d12ac8c6f0c85bd88eb", func := "loop.example/g01103/laws.FnExactLongerWithout", spec := "fnExactLongerWithout", unfollowed := true, recurses := true, named := ["math/bits.deBruijn32tab", "math/bits.deBruijn64tab"], apart := false, laid := [("math/bits.deBruijn32tab", laid_math_bits_deBruijn32tab), ("math/bits.deBruijn64tab", laid_math_bits_deBruijn64tab)], narrowed := true }
def FnExactLongerWithoutUptoSaid : Prop := fnExactLongerWithoutUptoRow.holds Tryd.pinned (OpenSpec.upto fnExactLongerWithoutSpec)

/-- 'laws.FnExactLabelPlan', WHERE WHAT IT READS IS OF BULK AT MOST 1048576: true; the input reads as it did. -/
def fnExactLabelPlanUptoRow : OpenClaim := { program := "ytjemjdlaoebffaadoor", sum := "7d55f4724f54a722a4cd0524223e1ab634fab67a79410d12ac8c6f0c85bd88eb", func := "loop.example/g01103/laws.FnExactLabelPlan", spec := "fnExactLabelPlan", unfollowed := true, recurses := true, named := ["math/bits.deBruijn32tab", "math/bits.deBruijn64tab"], apart := false, laid := [("math/bits.deBruijn32tab", laid_math_bits_deBruijn32tab), ("math/bits.deBruijn64tab", laid_math_bits_deBruijn64tab)], narrowed := true }
def FnExactLabelPlanUptoSaid : Prop := fnExactLabelPlanUptoRow.holds Tryd.pinned (OpenSpec.upto fnExactLabelPlanSpec)

/-- 'laws.FnExactIdleChain', WHERE WHAT IT READS IS OF BULK AT MOST 1048576: true; the input reads as it did. -/
def fnExactIdleChainUptoRow : OpenClaim := { program := "ytjemjdlaoebffaadoor", sum := "7d55f4724f54a722a4cd0524223e1ab634fab67a79410d12ac8c6f0c85bd88eb", func := "loop.example/g01103/laws.FnExactIdleChain", spec := "fnExactIdleChain", unfollowed := true, recurses := true, named := ["math/bits.deBruijn32tab", "math/bits.deBruijn64tab"], apart := false, laid := [("math/bits.deBruijn32tab", laid_math_bits_deBruijn32tab), ("math/bits.deBruijn64tab", laid_math_bits_deBruijn64tab)], narrowed := true }
def FnExactIdleChainUptoSaid : Prop := fnExactIdleChainUptoRow.holds Tryd.pinned (OpenSpec.upto fnExactIdleChainSpec)

/-- 'laws.FnExactBackwardOrder', WHERE WHAT IT READS IS OF BULK AT MOST 1048576: true; the input reads as it did. -/
def fnExactBackwardOrderUptoRow : OpenClaim := { program := "ytjemjdlaoebffaadoor", sum := "7d55f4724f54a722a4cd0524223e1ab634fab67a79410d12ac8c6f0c85bd88eb", func := "loop.example/g01103/laws.FnExactBackwardOrder", spec := "fnExactBackwardOrder", unfollowed := true, recurses := true, named := ["math/bits.deBruijn32tab", "math/bits.deBruijn64tab"], apart := false, laid := [("math/bits.deBruijn32tab", laid_math_bits_deBruijn32tab), ("math/bits.deBruijn64tab", laid_math_bits_deBruijn64tab)], narrowed := true }
def FnExactBackwardOrderUptoSaid : Prop := fnExactBackwardOrderUptoRow.holds Tryd.pinned (OpenSpec.upto fnExactBackwardOrderSpec)

/-- 'laws.FnExactYieldOf', WHERE WHAT IT READS IS OF BULK AT MOST 1048576: true; the input reads as it did. -/
def fnExactYieldOfUptoRow : OpenClaim := { program := "ytjemjdlaoebffaadoor", sum := "7d55f4724f54a722a4cd0524223e1ab634fab67a79410d12ac8c6f0c85bd88eb", func := "loop.example/g01103/laws.FnExactYieldOf", spec := "fnExactYieldOf", unfollowed := true, recurses := true, named := ["math/bits.deBruijn32tab", "math/bits.deBruijn64tab"], apart := false, laid := [("math/bits.deBruijn32tab", laid_math_bits_deBruijn32tab), ("math/bits.deBruijn64tab", laid_math_bits_deBruijn64tab)], narrowed := true }
def FnExactYieldOfUptoSaid : Prop := fnExactYieldOfUptoRow.holds Tryd.pinned (OpenSpec.upto fnExactYieldOfSpec)

end Rows
end Go.Proofs.YtjemjdlaoebffaaDoor
