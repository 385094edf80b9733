/-
  NARROWER THAN 'FOR EVERY INPUT', by the rows' own cells (each row's printed sentence says how): FnExactWeightTable: laid · FnExactLeastLateWeight: laid · FnExactSetValues: laid · FnExactSetOrder: laid · FnExactLeastTardiness: laid · FnExactRatioOfSet: laid.
  DERIVED. THE GIVEN ROWS OF THIS SEAT. 6 by the template 'for every input the law returns true; each argument reads behind the call as it read before'; 0 by the template 'total and deterministic' (their statements: YtccnmldmolofaaaDoorTotals.lean).
  GIVEN WITH THE SEED: the statements are not yours to turn. If you find one false, say at which input.
  Laid BY PROGRAM, IN A SANDBOX (cutbox-rows.mjs): the forced cells as the released guide's own fill.sh prints them over the translation d44c3ecceec4e213… (all of the seat's roots in one cut). By AI agents, Wed Nov 11 2026. No macro, syntax, notation, axiom, sorry.
-/
import Derived.Test.YtccnmldmolofaaaDoorChecked
import GoSem.Claim
import GoSem.ClaimJoined
import GoSem.ClaimMapViews
import Derived.JoinedTies
import Derived.KernelRfl
namespace Go.Proofs.YtccnmldmolofaaaDoor
/- THE CELL 'sum', in the pinned program and in every row, IS THE sha256 OF THE DUMP (.gsa) THAT YtccnmldmolofaaaDoorProg.lean LOADS. Nothing in Lean hashes anything: it is a label: what it is worth is what the hold of that sum in a sandbox is worth. -/
noncomputable def Tryd.pinned : Pinned := { name := "ytccnmldmolofaaadoor", sum := "d44c3ecceec4e213fdad23fe1ac27ca305bb1f7b363a063aa828df210cea9583", checked := Tryd.checked }
namespace Rows
def none {H : Type} : Left H := { results := [], args := [] }

/- WHAT THE LISTED PACKAGE-LEVEL VARIABLES READ AS WHEN THE CALL BEGINS. Each datum BY PROGRAM (the guide's laid-datum.mjs) off the statement by which the dump's own 'gosem.cut.vars' lays the variable. In a bare row this is a premise. The card (YtccnmldmolofaaaDoorCards.lean) ties it to the program's text. -/
def laid_math_bits_deBruijn32tab {H : Type} : DataW H := .agg [.lit (.int .u8 0), .lit (.int .u8 1), .lit (.int .u8 28), .lit (.int .u8 2), .lit (.int .u8 29), .lit (.int .u8 14), .lit (.int .u8 24), .lit (.int .u8 3), .lit (.int .u8 30), .lit (.int .u8 22), .lit (.int .u8 20), .lit (.int .u8 15), .lit (.int .u8 25), .lit (.int .u8 17), .lit (.int .u8 4), .lit (.int .u8 8), .lit (.int .u8 31), .lit (.int .u8 27), .lit (.int .u8 13), .lit (.int .u8 23), .lit (.int .u8 21), .lit (.int .u8 19), .lit (.int .u8 16), .lit (.int .u8 7), .lit (.int .u8 26), .lit (.int .u8 12), .lit (.int .u8 18), .lit (.int .u8 6), .lit (.int .u8 11), .lit (.int .u8 5), .lit (.int .u8 10), .lit (.int .u8 9)]
def laid_math_bits_deBruijn64tab {H : Type} : DataW H := .agg [.lit (.int .u8 0), .lit (.int .u8 1), .lit (.int .u8 56), .lit (.int .u8 2), .lit (.int .u8 57), .lit (.int .u8 49), .lit (.int .u8 28), .lit (.int .u8 3), .lit (.int .u8 61), .lit (.int .u8 58), .lit (.int .u8 42), .lit (.int .u8 50), .lit (.int .u8 38), .lit (.int .u8 29), .lit (.int .u8 17), .lit (.int .u8 4), .lit (.int .u8 62), .lit (.int .u8 47), .lit (.int .u8 59), .lit (.int .u8 36), .lit (.int .u8 45), .lit (.int .u8 43), .lit (.int .u8 51), .lit (.int .u8 22), .lit (.int .u8 53), .lit (.int .u8 39), .lit (.int .u8 33), .lit (.int .u8 30), .lit (.int .u8 24), .lit (.int .u8 18), .lit (.int .u8 12), .lit (.int .u8 5), .lit (.int .u8 63), .lit (.int .u8 55), .lit (.int .u8 48), .lit (.int .u8 27), .lit (.int .u8 60), .lit (.int .u8 41), .lit (.int .u8 37), .lit (.int .u8 16), .lit (.int .u8 46), .lit (.int .u8 35), .lit (.int .u8 44), .lit (.int .u8 21), .lit (.int .u8 52), .lit (.int .u8 32), .lit (.int .u8 23), .lit (.int .u8 11), .lit (.int .u8 54), .lit (.int .u8 26), .lit (.int .u8 40), .lit (.int .u8 15), .lit (.int .u8 34), .lit (.int .u8 20), .lit (.int .u8 31), .lit (.int .u8 10), .lit (.int .u8 25), .lit (.int .u8 14), .lit (.int .u8 19), .lit (.int .u8 9), .lit (.int .u8 13), .lit (.int .u8 8), .lit (.int .u8 7), .lit (.int .u8 6)]

/-- 'laws.FnExactWeightTable': WHATEVER THE INPUT: true; the input reads as it did. -/
def fnExactWeightTableSpec : ChangeSpec := { name := "fnExactWeightTable", fn := fun _ => fun
  | [d] => { results := [.lit (.bool true)], args := [d] }
  | _ => none }
def fnExactWeightTableRow : OpenClaim := { program := "ytccnmldmolofaaadoor", sum := "d44c3ecceec4e213fdad23fe1ac27ca305bb1f7b363a063aa828df210cea9583", func := "loop.example/g01103/laws.FnExactWeightTable", spec := "fnExactWeightTable", unfollowed := true, recurses := true, named := ["math/bits.deBruijn32tab", "math/bits.deBruijn64tab"], apart := false, laid := [("math/bits.deBruijn32tab", laid_math_bits_deBruijn32tab), ("math/bits.deBruijn64tab", laid_math_bits_deBruijn64tab)] }
def FnExactWeightTableSaid : Prop := fnExactWeightTableRow.holds Tryd.pinned (OpenSpec.ofChange fnExactWeightTableSpec)

/-- ITS FALSE NEIGHBOUR: 'it returns false'. Refute it at one input. -/
def fnExactWeightTableWrong : ChangeSpec := { name := "fnExactWeightTable", fn := fun _ => fun
  | [d] => { results := [.lit (.bool false)], args := [d] }
  | _ => none }
def FnExactWeightTableWrongFalsely : Prop := fnExactWeightTableRow.holds Tryd.pinned (OpenSpec.ofChange fnExactWeightTableWrong)

/-- 'laws.FnExactLeastLateWeight': WHATEVER THE INPUT: true; the input reads as it did. -/
def fnExactLeastLateWeightSpec : ChangeSpec := { name := "fnExactLeastLateWeight", fn := fun _ => fun
  | [d] => { results := [.lit (.bool true)], args := [d] }
  | _ => none }
def fnExactLeastLateWeightRow : OpenClaim := { program := "ytccnmldmolofaaadoor", sum := "d44c3ecceec4e213fdad23fe1ac27ca305bb1f7b363a063aa828df210cea9583", func := "loop.example/g01103/laws.FnExactLeastLateWeight", spec := "fnExactLeastLateWeight", unfollowed := true, recurses := true, named := ["math/bits.deBruijn32tab", "math/bits.deBruijn64tab"], apart := false, laid := [("math/bits.deBruijn32tab", laid_math_bits_deBruijn32tab), ("math/bits.deBruijn64tab", laid_math_bits_deBruijn64tab)] }
def FnExactLeastLateWeightSaid : Prop := fnExactLeastLateWeightRow.holds Tryd.pinned (OpenSpec.ofChange fnExactLeastLateWeightSpec)

/-- ITS FALSE NEIGHBOUR: 'it returns false'. Refute it at one input. -/
def fnExactLeastLateWeightWrong : ChangeSpec := { name := "fnExactLeastLateWeight", fn := fun _ => fun
  | [d] => { results := [.lit (.bool false)], args := [d] }
  | _ => none }
def FnExactLeastLateWeightWrongFalsely : Prop := fnExactLeastLateWeightRow.holds Tryd.pinned (OpenSpec.ofChange fnExactLeastLateWeightWrong)

/-- 'laws.FnExactSetValues': WHATEVER THE INPUT: true; the input reads as it did. -/
def fnExactSetValuesSpec : ChangeSpec := { name := "fnExactSetValues", fn := fun _ => fun
  | [d1, d2] => { results := [.lit (.bool true)], args := [d1, d2] }
  | _ => none }
def fnExactSetValuesRow : OpenClaim := { program := "ytccnmldmolofaaadoor", sum := "d44c3ecceec4e213fdad23fe1ac27ca305bb1f7b363a063aa828df210cea9583", func := "loop.example/g01103/laws.FnExactSetValues", spec := "fnExactSetValues", unfollowed := true, recurses := true, named := ["math/bits.deBruijn32tab", "math/bits.deBruijn64tab"], apart := false, laid := [("math/bits.deBruijn32tab", laid_math_bits_deBruijn32tab), ("math/bits.deBruijn64tab", laid_math_bits_deBruijn64tab)] }
def FnExactSetValuesSaid : Prop := fnExactSetValuesRow.holds Tryd.pinned (OpenSpec.ofChange fnExactSetValuesSpec)

/-- ITS FALSE NEIGHBOUR: 'it returns false'. Refute it at one input. -/
def fnExactSetValuesWrong : ChangeSpec := { name := "fnExactSetValues", fn := fun _ => fun
  | [d1, d2] => { results := [.lit (.bool false)], args := [d1, d2] }
  | _ => none }
def FnExactSetValuesWrongFalsely : Prop := fnExactSetValuesRow.holds Tryd.pinned (OpenSpec.ofChange fnExactSetValuesWrong)

/-- 'laws.FnExactSetOrder': WHATEVER THE INPUT: true; the input reads as it did. -/
def fnExactSetOrderSpec : ChangeSpec := { name := "fnExactSetOrder", fn := fun _ => fun
  | [d1, d2] => { results := [.lit (.bool true)], args := [d1, d2] }
  | _ => none }
def fnExactSetOrderRow : OpenClaim := { program := "ytccnmldmolofaaadoor", sum := "d44c3ecceec4e213fdad23fe1ac27ca305bb1f7b363a063aa828df210cea9583", func := "loop.example/g01103/laws.FnExactSetOrder", spec := "fnExactSetOrder", unfollowed := true, recurses := true, named := ["math/bits.deBruijn32tab", "math/bits.deBruijn64tab"], apart := false, laid := [("math/bits.deBruijn32tab", laid_math_bits_deBruijn32tab), ("math/bits.deBruijn64tab", laid_math_bits_deBruijn64tab)] }
def FnExactSetOrderSaid : Prop := fnExactSetOrderRow.holds Tryd.pinned (OpenSpec.ofChange fnExactSetOrderSpec)

/-- ITS FALSE NEIGHBOUR: 'it returns false'. Refute it at one input. -/
def fnExactSetOrderWrong : ChangeSpec := { name := "fnExactSetOrder", fn := fun _ => fun
  | [d1, d2] => { results := [.lit (.bool false)], args := [d1, d2] }
  | _ => none }
def FnExactSetOrderWrongFalsely : Prop := fnExactSetOrderRow.holds Tryd.pinned (OpenSpec.ofChange fnExactSetOrderWrong)

/-- 'laws.FnExactLeastTardiness': WHATEVER THE INPUT: true; the input reads as it did. -/
def fnExactLeastTardinessSpec : ChangeSpec := { name := "fnExactLeastTardiness", fn := fun _ => fun
  | [d] => { results := [.lit (.bool true)], args := [d] }
  | _ => none }
def fnExactLeastTardinessRow : OpenClaim := { program := "ytccnmldmolofaaadoor", sum := "d44c3ecceec4e213fdad23fe1ac27ca305bb1f7b363a063aa828df210cea9583", func := "loop.example/g01103/laws.FnExactLeastTardiness", spec := "fnExactLeastTardiness", unfollowed := true, recurses := true, named := ["math/bits.deBruijn32tab", "math/bits.deBruijn64tab"], apart := false, laid := [("math/bits.deBruijn32tab", laid_math_bits_deBruijn32tab), ("math/bits.deBruijn64tab", laid_math_bits_deBruijn64tab)] }
def FnExactLeastTardinessSaid : Prop := fnExactLeastTardinessRow.holds Tryd.pinned (OpenSpec.ofChange fnExactLeastTardinessSpec)

/-- ITS FALSE NEIGHBOUR: 'it returns false'. Refute it at one input. -/
def fnExactLeastTardinessWrong : ChangeSpec := { name := "fnExactLeastTardiness", fn := fun _ => fun
  | [d] => { results := [.lit (.bool false)], args := [d] }
  | _ => none }
def FnExactLeastTardinessWrongFalsely : Prop := fnExactLeastTardinessRow.holds Tryd.pinned (OpenSpec.ofChange fnExactLeastTardinessWrong)

/-- 'laws.FnExactRatioOfSet': WHATEVER THE INPUT: true; the input reads as it did. -/
def fnExactRatioOfSetSpec : ChangeSpec := { name := "fnExactRatioOfSet", fn := fun _ => fun
  | [d1, d2] => { results := [.lit (.bool true)], args := [d1, d2] }
  | _ => none }
def fnExactRatioOfSetRow : OpenClaim := { program := "ytccnmldmolofaaadoor", sum := "d44c3ecceec4e213fdad23fe1ac27ca305bb1f7b363a063aa828df210cea9583", func := "loop.example/g01103/laws.FnExactRatioOfSet", spec := "fnExactRatioOfSet", unfollowed := true, recurses := true, named := ["math/bits.deBruijn32tab", "math/bits.deBruijn64tab"], apart := false, laid := [("math/bits.deBruijn32tab", laid_math_bits_deBruijn32tab), ("math/bits.deBruijn64tab", laid_math_bits_deBruijn64tab)] }
def FnExactRatioOfSetSaid : Prop := fnExactRatioOfSetRow.holds Tryd.pinned (OpenSpec.ofChange fnExactRatioOfSetSpec)

/-- ITS FALSE NEIGHBOUR: 'it returns false'. Refute it at one input. -/
def fnExactRatioOfSetWrong : ChangeSpec := { name := "fnExactRatioOfSet", fn := fun _ => fun
  | [d1, d2] => { results := [.lit (.bool false)], args := [d1, d2] }
  | _ => none }
def FnExactRatioOfSetWrongFalsely : Prop := fnExactRatioOfSetRow.holds Tryd.pinned (OpenSpec.ofChange fnExactRatioOfSetWrong)

/- THE SECOND FORM. 'bulk': how many values and letters a reading holds, each counted each time it is reached (what is shared counts as often as it is met; a slice's spare places count too). A statement '..UptoSaid' is the law's where the arguments, and the package variables that the reading takes, are together of bulk at most 1048576: NARROWER than '..Said'. Prove '..Said' where nothing that the law and all that it calls make is longer than what came in: it says more and counts as full. Else prove '..UptoSaid'. A law counts once. -/
mutual
def uptoBulk {H : Type} : DataW H → Nat
  | .lit (.string bytes) => bytes.length + 1
  | .lit _ => 1
  | .nil => 1
  | .ptr d => uptoBulk d + 1
  | .slice elems spare => uptoBulkAll elems + uptoBulkAll spare + 1
  | .agg parts => uptoBulkAll parts + 1
  | .iface _ d => uptoBulk d + 1
  | .map entries => uptoBulkEntries entries + 1
  | .held _ => 1
def uptoBulkAll {H : Type} : List (DataW H) → Nat
  | [] => 0
  | d :: r => uptoBulk d + uptoBulkAll r
def uptoBulkEntries {H : Type} : List (Lit × DataW H) → Nat
  | [] => 0
  | x :: r => uptoBulkEntry x + uptoBulkEntries r
def uptoBulkEntry {H : Type} : Lit × DataW H → Nat
  | (.string bytes, d) => bytes.length + uptoBulk d + 1
  | (_, d) => uptoBulk d + 1
 end
def uptoSmall : (H : Type) → List (DataW H) → Bool := fun _ ds => decide (uptoBulkAll ds ≤ 1048576)
def OpenSpec.upto (s : _root_.Go.ChangeSpec) : _root_.Go.OpenSpec := { _root_.Go.OpenSpec.ofChange s with cond := some uptoSmall }

/-- 'laws.FnExactWeightTable', WHERE WHAT IT READS IS OF BULK AT MOST 1048576: true; the input reads as it did. -/
def fnExactWeightTableUptoRow : OpenClaim := { program := "ytccnmldmolofaaadoor", sum := "d44c3ecceec4e213fdad23fe1ac27ca305bb1f7b363a063aa828df210cea9583", func := "loop.example/g01103/laws.FnExactWeightTable", spec := "fnExactWeightTable", unfollowed := true, recurses := true, named := ["math/bits.deBruijn32tab", "math/bits.deBruijn64tab"], apart := false, laid := [("math/bits.deBruijn32tab", laid_math_bits_deBruijn32tab), ("math/bits.deBruijn64tab", laid_math_bits_deBruijn64tab)], narrowed := true }
def FnExactWeightTableUptoSaid : Prop := fnExactWeightTableUptoRow.holds Tryd.pinned (OpenSpec.upto fnExactWeightTableSpec)

/-- 'laws.FnExactLeastLateWeight', WHERE WHAT IT READS IS OF BULK AT MOST 1048576: true; the input reads as it did. -/
def fnExactLeastLateWeightUptoRow : OpenClaim := { program := "ytccnmldmolofaaadoor", sum := "d44c3ecceec4e213fdad23fe1ac27ca305bb1f7b363a063aa828df210cea9583", func := "loop.example/g01103/laws.FnExactLeastLateWeight", spec := "fnExactLeastLateWeight", unfollowed := true, recurses := true, named := ["math/bits.deBruijn32tab", "math/bits.deBruijn64tab"], apart := false, laid := [("math/bits.deBruijn32tab", laid_math_bits_deBruijn32tab), ("math/bits.deBruijn64tab", laid_math_bits_deBruijn64tab)], narrowed := true }
def FnExactLeastLateWeightUptoSaid : Prop := fnExactLeastLateWeightUptoRow.holds Tryd.pinned (OpenSpec.upto fnExactLeastLateWeightSpec)

/-- 'laws.FnExactSetValues', WHERE WHAT IT READS IS OF BULK AT MOST 1048576: true; the input reads as it did. -/
def fnExactSetValuesUptoRow : OpenClaim := { program := "ytccnmldmolofaaadoor", sum := "d44c3ecceec4e213fdad23fe1ac27ca305bb1f7b363a063aa828df210cea9583", func := "loop.example/g01103/laws.FnExactSetValues", spec := "fnExactSetValues", unfollowed := true, recurses := true, named := ["math/bits.deBruijn32tab", "math/bits.deBruijn64tab"], apart := false, laid := [("math/bits.deBruijn32tab", laid_math_bits_deBruijn32tab), ("math/bits.deBruijn64tab", laid_math_bits_deBruijn64tab)], narrowed := true }
def FnExactSetValuesUptoSaid : Prop := fnExactSetValuesUptoRow.holds Tryd.pinned (OpenSpec.upto fnExactSetValuesSpec)

/-- 'laws.FnExactSetOrder', WHERE WHAT IT READS IS OF BULK AT MOST 1048576: true; the input reads as it did. -/
def fnExactSetOrderUptoRow : OpenClaim := { program := "ytccnmldmolofaaadoor", sum := "d44c3ecceec4e213fdad23fe1ac27ca305bb1f7b363a063aa828df210cea9583", func := "loop.example/g01103/laws.FnExactSetOrder", spec := "fnExactSetOrder", unfollowed := true, recurses := true, named := ["math/bits.deBruijn32tab", "math/bits.deBruijn64tab"], apart := false, laid := [("math/bits.deBruijn32tab", laid_math_bits_deBruijn32tab), ("math/bits.deBruijn64tab", laid_math_bits_deBruijn64tab)], narrowed := true }
def FnExactSetOrderUptoSaid : Prop := fnExactSetOrderUptoRow.holds Tryd.pinned (OpenSpec.upto fnExactSetOrderSpec)

/-- 'laws.FnExactLeastTardiness', WHERE WHAT IT READS IS OF BULK AT MOST 1048576: true; the input reads as it did. -/
def fnExactLeastTardinessUptoRow : OpenClaim := { program := "ytccnmldmolofaaadoor", sum := "d44c3ecceec4e213fdad23fe1ac27ca305bb1f7b363a063aa828df210cea9583", func := "loop.example/g01103/laws.FnExactLeastTardiness", spec := "fnExactLeastTardiness", unfollowed := true, recurses := true, named := ["math/bits.deBruijn32tab", "math/bits.deBruijn64tab"], apart := false, laid := [("math/bits.deBruijn32tab", laid_math_bits_deBruijn32tab), ("math/bits.deBruijn64tab", laid_math_bits_deBruijn64tab)], narrowed := true }
def FnExactLeastTardinessUptoSaid : Prop := fnExactLeastTardinessUptoRow.holds Tryd.pinned (OpenSpec.upto fnExactLeastTardinessSpec)

/-- 'laws.FnExactRatioOfSet', WHERE WHAT IT READS IS OF BULK AT MOST 1048576: true; the input reads as it did. -/
def fnExactRatioOfSetUptoRow : OpenClaim := { program := "ytccnmldmolofaaadoor", sum := "d44c3ecceec4e213fdad23fe1ac27ca305bb1f7b363a063aa828df210cea9583", func := "loop.example/g01103/laws.FnExactRatioOfSet", spec := "fnExactRatioOfSet", unfollowed := true, recurses := true, named := ["math/bits.deBruijn32tab", "math/bits.deBruijn64tab"], apart := false, laid := [("math/bits.deBruijn32tab", laid_math_bits_deBruijn32tab), ("math/bits.deBruijn64tab", laid_math_bits_deBruijn64tab)], narrowed := true }
def FnExactRatioOfSetUptoSaid : Prop := fnExactRatioOfSetUptoRow.holds Tryd.pinned (OpenSpec.upto fnExactRatioOfSetSpec)

end Rows
end Go.Proofs.YtccnmldmolofaaaDoor
