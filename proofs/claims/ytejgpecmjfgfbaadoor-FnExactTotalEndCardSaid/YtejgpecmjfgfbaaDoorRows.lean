/-
  NARROWER THAN 'FOR EVERY INPUT', by the rows' own cells (each row's printed sentence says how): FnExactListPlan: laid · FnExactLongestFirst: laid · FnExactTailsFirst: laid · FnExactLongerWith: laid · FnExactTotalEnd: laid · FnExactLongerWithout: laid · FnExactIdleChain: laid · FnExactLabelPlan: laid.
  DERIVED. THE GIVEN ROWS OF THIS SEAT. 8 by the template 'for every input the law returns true; each argument reads behind the call as it read before'; 0 by the template 'total and deterministic' (their statements: YtejgpecmjfgfbaaDoorTotals.lean).
  GIVEN WITH THE SEED: the statements are not yours to turn. If you find one false, say at which input.
  Laid BY PROGRAM, IN A SANDBOX (cutbox-rows.mjs): the forced cells as the released guide's own fill.sh prints them over the translation 04c8e27be870da7a… (all of the seat's roots in one cut). By AI agents, Wed Nov 11 2026. No macro, syntax, notation, axiom, sorry.
-/
import Derived.Test.YtejgpecmjfgfbaaDoorChecked
import GoSem.Claim
import GoSem.ClaimJoined
import GoSem.ClaimMapViews
import Derived.JoinedTies
import Derived.KernelRfl
namespace Go.Proofs.YtejgpecmjfgfbaaDoor
/- THE CELL 'sum', in the pinned program and in every row, IS THE sha256 OF THE DUMP (.gsa) THAT YtejgpecmjfgfbaaDoorProg.lean LOADS. Nothing in Lean hashes anything: it is a label: what it is worth is what the hold of that sum in a sandbox is worth. -/
noncomputable def Tryd.pinned : Pinned := { name := "ytejgpecmjfgfbaadoor", sum := "04c8e27be870da7aec71908e8c1809759b2d7de92c1d17e03ac335c967f4440b", checked := Tryd.checked }
namespace Rows
def none {H : Type} : Left H := { results := [], args := [] }

/- WHAT THE LISTED PACKAGE-LEVEL VARIABLES READ AS WHEN THE CALL BEGINS. Each datum BY PROGRAM (the guide's laid-datum.mjs) off the statement by which the dump's own 'gosem.cut.vars' lays the variable. In a bare row this is a premise. The card (YtejgpecmjfgfbaaDoorCards.lean) ties it to the program's text. -/
def laid_math_bits_deBruijn32tab {H : Type} : DataW H := .agg [.lit (.int .u8 0), .lit (.int .u8 1), .lit (.int .u8 28), .lit (.int .u8 2), .lit (.int .u8 29), .lit (.int .u8 14), .lit (.int .u8 24), .lit (.int .u8 3), .lit (.int .u8 30), .lit (.int .u8 22), .lit (.int .u8 20), .lit (.int .u8 15), .lit (.int .u8 25), .lit (.int .u8 17), .lit (.int .u8 4), .lit (.int .u8 8), .lit (.int .u8 31), .lit (.int .u8 27), .lit (.int .u8 13), .lit (.int .u8 23), .lit (.int .u8 21), .lit (.int .u8 19), .lit (.int .u8 16), .lit (.int .u8 7), .lit (.int .u8 26), .lit (.int .u8 12), .lit (.int .u8 18), .lit (.int .u8 6), .lit (.int .u8 11), .lit (.int .u8 5), .lit (.int .u8 10), .lit (.int .u8 9)]
def laid_math_bits_deBruijn64tab {H : Type} : DataW H := .agg [.lit (.int .u8 0), .lit (.int .u8 1), .lit (.int .u8 56), .lit (.int .u8 2), .lit (.int .u8 57), .lit (.int .u8 49), .lit (.int .u8 28), .lit (.int .u8 3), .lit (.int .u8 61), .lit (.int .u8 58), .lit (.int .u8 42), .lit (.int .u8 50), .lit (.int .u8 38), .lit (.int .u8 29), .lit (.int .u8 17), .lit (.int .u8 4), .lit (.int .u8 62), .lit (.int .u8 47), .lit (.int .u8 59), .lit (.int .u8 36), .lit (.int .u8 45), .lit (.int .u8 43), .lit (.int .u8 51), .lit (.int .u8 22), .lit (.int .u8 53), .lit (.int .u8 39), .lit (.int .u8 33), .lit (.int .u8 30), .lit (.int .u8 24), .lit (.int .u8 18), .lit (.int .u8 12), .lit (.int .u8 5), .lit (.int .u8 63), .lit (.int .u8 55), .lit (.int .u8 48), .lit (.int .u8 27), .lit (.int .u8 60), .lit (.int .u8 41), .lit (.int .u8 37), .lit (.int .u8 16), .lit (.int .u8 46), .lit (.int .u8 35), .lit (.int .u8 44), .lit (.int .u8 21), .lit (.int .u8 52), .lit (.int .u8 32), .lit (.int .u8 23), .lit (.int .u8 11), .lit (.int .u8 54), .lit (.int .u8 26), .lit (.int .u8 40), .lit (.int .u8 15), .lit (.int .u8 34), .lit (.int .u8 20), .lit (.int .u8 31), .lit (.int .u8 10), .lit (.int .u8 25), .lit (.int .u8 14), .lit (.int .u8 19), .lit (.int .u8 9), .lit (.int .u8 13), .lit (.int .u8 8), .lit (.int .u8 7), .lit (.int .u8 6)]

/-- 'laws.FnExactListPlan': WHATEVER THE INPUT: true; the input reads as it did. -/
def fnExactListPlanSpec : ChangeSpec := { name := "fnExactListPlan", fn := fun _ => fun
  | [d1, d2, d3, d4] => { results := [.lit (.bool true)], args := [d1, d2, d3, d4] }
  | _ => none }
def fnExactListPlanRow : OpenClaim := { program := "ytejgpecmjfgfbaadoor", sum := "04c8e27be870da7aec71908e8c1809759b2d7de92c1d17e03ac335c967f4440b", func := "loop.example/g01103/laws.FnExactListPlan", spec := "fnExactListPlan", unfollowed := true, recurses := true, named := ["math/bits.deBruijn32tab", "math/bits.deBruijn64tab"], apart := false, laid := [("math/bits.deBruijn32tab", laid_math_bits_deBruijn32tab), ("math/bits.deBruijn64tab", laid_math_bits_deBruijn64tab)] }
def FnExactListPlanSaid : Prop := fnExactListPlanRow.holds Tryd.pinned (OpenSpec.ofChange fnExactListPlanSpec)

/-- ITS FALSE NEIGHBOUR: 'it returns false'. Refute it at one input. -/
def fnExactListPlanWrong : ChangeSpec := { name := "fnExactListPlan", fn := fun _ => fun
  | [d1, d2, d3, d4] => { results := [.lit (.bool false)], args := [d1, d2, d3, d4] }
  | _ => none }
def FnExactListPlanWrongFalsely : Prop := fnExactListPlanRow.holds Tryd.pinned (OpenSpec.ofChange fnExactListPlanWrong)

/-- 'laws.FnExactLongestFirst': WHATEVER THE INPUT: true; the input reads as it did. -/
def fnExactLongestFirstSpec : ChangeSpec := { name := "fnExactLongestFirst", fn := fun _ => fun
  | [d1, d2] => { results := [.lit (.bool true)], args := [d1, d2] }
  | _ => none }
def fnExactLongestFirstRow : OpenClaim := { program := "ytejgpecmjfgfbaadoor", sum := "04c8e27be870da7aec71908e8c1809759b2d7de92c1d17e03ac335c967f4440b", func := "loop.example/g01103/laws.FnExactLongestFirst", spec := "fnExactLongestFirst", unfollowed := true, recurses := true, named := ["math/bits.deBruijn32tab", "math/bits.deBruijn64tab"], apart := false, laid := [("math/bits.deBruijn32tab", laid_math_bits_deBruijn32tab), ("math/bits.deBruijn64tab", laid_math_bits_deBruijn64tab)] }
def FnExactLongestFirstSaid : Prop := fnExactLongestFirstRow.holds Tryd.pinned (OpenSpec.ofChange fnExactLongestFirstSpec)

/-- ITS FALSE NEIGHBOUR: 'it returns false'. Refute it at one input. -/
def fnExactLongestFirstWrong : ChangeSpec := { name := "fnExactLongestFirst", fn := fun _ => fun
  | [d1, d2] => { results := [.lit (.bool false)], args := [d1, d2] }
  | _ => none }
def FnExactLongestFirstWrongFalsely : Prop := fnExactLongestFirstRow.holds Tryd.pinned (OpenSpec.ofChange fnExactLongestFirstWrong)

/-- 'laws.FnExactTailsFirst': WHATEVER THE INPUT: true; the input reads as it did. -/
def fnExactTailsFirstSpec : ChangeSpec := { name := "fnExactTailsFirst", fn := fun _ => fun
  | [d1, d2, d3] => { results := [.lit (.bool true)], args := [d1, d2, d3] }
  | _ => none }
def fnExactTailsFirstRow : OpenClaim := { program := "ytejgpecmjfgfbaadoor", sum := "04c8e27be870da7aec71908e8c1809759b2d7de92c1d17e03ac335c967f4440b", func := "loop.example/g01103/laws.FnExactTailsFirst", spec := "fnExactTailsFirst", unfollowed := true, recurses := true, named := ["math/bits.deBruijn32tab", "math/bits.deBruijn64tab"], apart := false, laid := [("math/bits.deBruijn32tab", laid_math_bits_deBruijn32tab), ("math/bits.deBruijn64tab", laid_math_bits_deBruijn64tab)] }
def FnExactTailsFirstSaid : Prop := fnExactTailsFirstRow.holds Tryd.pinned (OpenSpec.ofChange fnExactTailsFirstSpec)

/-- ITS FALSE NEIGHBOUR: 'it returns false'. Refute it at one input. -/
def fnExactTailsFirstWrong : ChangeSpec := { name := "fnExactTailsFirst", fn := fun _ => fun
  | [d1, d2, d3] => { results := [.lit (.bool false)], args := [d1, d2, d3] }
  | _ => none }
def FnExactTailsFirstWrongFalsely : Prop := fnExactTailsFirstRow.holds Tryd.pinned (OpenSpec.ofChange fnExactTailsFirstWrong)

/-- 'laws.FnExactLongerWith': WHATEVER THE INPUT: true; the input reads as it did. -/
def fnExactLongerWithSpec : ChangeSpec := { name := "fnExactLongerWith", fn := fun _ => fun
  | [d1, d2, d3, d4] => { results := [.lit (.bool true)], args := [d1, d2, d3, d4] }
  | _ => none }
def fnExactLongerWithRow : OpenClaim := { program := "ytejgpecmjfgfbaadoor", sum := "04c8e27be870da7aec71908e8c1809759b2d7de92c1d17e03ac335c967f4440b", func := "loop.example/g01103/laws.FnExactLongerWith", spec := "fnExactLongerWith", unfollowed := true, recurses := true, named := ["math/bits.deBruijn32tab", "math/bits.deBruijn64tab"], apart := false, laid := [("math/bits.deBruijn32tab", laid_math_bits_deBruijn32tab), ("math/bits.deBruijn64tab", laid_math_bits_deBruijn64tab)] }
def FnExactLongerWithSaid : Prop := fnExactLongerWithRow.holds Tryd.pinned (OpenSpec.ofChange fnExactLongerWithSpec)

/-- ITS FALSE NEIGHBOUR: 'it returns false'. Refute it at one input. -/
def fnExactLongerWithWrong : ChangeSpec := { name := "fnExactLongerWith", fn := fun _ => fun
  | [d1, d2, d3, d4] => { results := [.lit (.bool false)], args := [d1, d2, d3, d4] }
  | _ => none }
def FnExactLongerWithWrongFalsely : Prop := fnExactLongerWithRow.holds Tryd.pinned (OpenSpec.ofChange fnExactLongerWithWrong)

/-- 'laws.FnExactTotalEnd': WHATEVER THE INPUT: true; the input reads as it did. -/
def fnExactTotalEndSpec : ChangeSpec := { name := "fnExactTotalEnd", fn := fun _ => fun
  | [d1, d2] => { results := [.lit (.bool true)], args := [d1, d2] }
  | _ => none }
def fnExactTotalEndRow : OpenClaim := { program := "ytejgpecmjfgfbaadoor", sum := "04c8e27be870da7aec71908e8c1809759b2d7de92c1d17e03ac335c967f4440b", func := "loop.example/g01103/laws.FnExactTotalEnd", spec := "fnExactTotalEnd", unfollowed := true, recurses := true, named := ["math/bits.deBruijn32tab", "math/bits.deBruijn64tab"], apart := false, laid := [("math/bits.deBruijn32tab", laid_math_bits_deBruijn32tab), ("math/bits.deBruijn64tab", laid_math_bits_deBruijn64tab)] }
def FnExactTotalEndSaid : Prop := fnExactTotalEndRow.holds Tryd.pinned (OpenSpec.ofChange fnExactTotalEndSpec)

/-- ITS FALSE NEIGHBOUR: 'it returns false'. Refute it at one input. -/
def fnExactTotalEndWrong : ChangeSpec := { name := "fnExactTotalEnd", fn := fun _ => fun
  | [d1, d2] => { results := [.lit (.bool false)], args := [d1, d2] }
  | _ => none }
def FnExactTotalEndWrongFalsely : Prop := fnExactTotalEndRow.holds Tryd.pinned (OpenSpec.ofChange fnExactTotalEndWrong)

/-- 'laws.FnExactLongerWithout': WHATEVER THE INPUT: true; the input reads as it did. -/
def fnExactLongerWithoutSpec : ChangeSpec := { name := "fnExactLongerWithout", fn := fun _ => fun
  | [d1, d2, d3, d4] => { results := [.lit (.bool true)], args := [d1, d2, d3, d4] }
  | _ => none }
def fnExactLongerWithoutRow : OpenClaim := { program := "ytejgpecmjfgfbaadoor", sum := "04c8e27be870da7aec71908e8c1809759b2d7de92c1d17e03ac335c967f4440b", func := "loop.example/g01103/laws.FnExactLongerWithout", spec := "fnExactLongerWithout", unfollowed := true, recurses := true, named := ["math/bits.deBruijn32tab", "math/bits.deBruijn64tab"], apart := false, laid := [("math/bits.deBruijn32tab", laid_math_bits_deBruijn32tab), ("math/bits.deBruijn64tab", laid_math_bits_deBruijn64tab)] }
def FnExactLongerWithoutSaid : Prop := fnExactLongerWithoutRow.holds Tryd.pinned (OpenSpec.ofChange fnExactLongerWithoutSpec)

/-- ITS FALSE NEIGHBOUR: 'it returns false'. Refute it at one input. -/
def fnExactLongerWithoutWrong : ChangeSpec := { name := "fnExactLongerWithout", fn := fun _ => fun
  | [d1, d2, d3, d4] => { results := [.lit (.bool false)], args := [d1, d2, d3, d4] }
  | _ => none }
def FnExactLongerWithoutWrongFalsely : Prop := fnExactLongerWithoutRow.holds Tryd.pinned (OpenSpec.ofChange fnExactLongerWithoutWrong)

/-- 'laws.FnExactIdleChain': WHATEVER THE INPUT: true; the input reads as it did. -/
def fnExactIdleChainSpec : ChangeSpec := { name := "fnExactIdleChain", fn := fun _ => fun
  | [d1, d2, d3, d4] => { results := [.lit (.bool true)], args := [d1, d2, d3, d4] }
  | _ => none }
def fnExactIdleChainRow : OpenClaim := { program := "ytejgpecmjfgfbaadoor", sum := "04c8e27be870da7aec71908e8c1809759b2d7de92c1d17e03ac335c967f4440b", func := "loop.example/g01103/laws.FnExactIdleChain", spec := "fnExactIdleChain", unfollowed := true, recurses := true, named := ["math/bits.deBruijn32tab", "math/bits.deBruijn64tab"], apart := false, laid := [("math/bits.deBruijn32tab", laid_math_bits_deBruijn32tab), ("math/bits.deBruijn64tab", laid_math_bits_deBruijn64tab)] }
def FnExactIdleChainSaid : Prop := fnExactIdleChainRow.holds Tryd.pinned (OpenSpec.ofChange fnExactIdleChainSpec)

/-- ITS FALSE NEIGHBOUR: 'it returns false'. Refute it at one input. -/
def fnExactIdleChainWrong : ChangeSpec := { name := "fnExactIdleChain", fn := fun _ => fun
  | [d1, d2, d3, d4] => { results := [.lit (.bool false)], args := [d1, d2, d3, d4] }
  | _ => none }
def FnExactIdleChainWrongFalsely : Prop := fnExactIdleChainRow.holds Tryd.pinned (OpenSpec.ofChange fnExactIdleChainWrong)

/-- 'laws.FnExactLabelPlan': WHATEVER THE INPUT: true; the input reads as it did. -/
def fnExactLabelPlanSpec : ChangeSpec := { name := "fnExactLabelPlan", fn := fun _ => fun
  | [d1, d2] => { results := [.lit (.bool true)], args := [d1, d2] }
  | _ => none }
def fnExactLabelPlanRow : OpenClaim := { program := "ytejgpecmjfgfbaadoor", sum := "04c8e27be870da7aec71908e8c1809759b2d7de92c1d17e03ac335c967f4440b", func := "loop.example/g01103/laws.FnExactLabelPlan", spec := "fnExactLabelPlan", unfollowed := true, recurses := true, named := ["math/bits.deBruijn32tab", "math/bits.deBruijn64tab"], apart := false, laid := [("math/bits.deBruijn32tab", laid_math_bits_deBruijn32tab), ("math/bits.deBruijn64tab", laid_math_bits_deBruijn64tab)] }
def FnExactLabelPlanSaid : Prop := fnExactLabelPlanRow.holds Tryd.pinned (OpenSpec.ofChange fnExactLabelPlanSpec)

/-- ITS FALSE NEIGHBOUR: 'it returns false'. Refute it at one input. -/
def fnExactLabelPlanWrong : ChangeSpec := { name := "fnExactLabelPlan", fn := fun _ => fun
  | [d1, d2] => { results := [.lit (.bool false)], args := [d1, d2] }
  | _ => none }
def FnExactLabelPlanWrongFalsely : Prop := fnExactLabelPlanRow.holds Tryd.pinned (OpenSpec.ofChange fnExactLabelPlanWrong)

/- THE SECOND FORM. 'bulk': how many values and letters a reading holds, each counted each time it is reached (what is shared counts as often as it is met; a slice's spare places count too). A statement '..UptoSaid' is the law's where the arguments, and the package variables that the reading takes, are together of bulk at most 1048576: NARROWER than '..Said'. Prove '..Said' where nothing that the law and all that it calls make is longer than what came in: it says more and counts as full. Else prove '..UptoSaid'. A law counts once. -/
mutual
def uptoBulk {H : Type} : DataW H → Nat
  | .lit (.string bytes) => bytes.length + 1
  | .lit _ => 1
  | .nil => 1
  | .ptr d => uptoBulk d + 1
  | .slice elems spare => uptoBulkAll elems + uptoBulkAll spare + 1
  | .agg parts => uptoBulkAll parts + 1
  | .iface _ d => uptoBulk d + 1
  | .map entries => uptoBulkEntries entries + 1
  | .held _ => 1
def uptoBulkAll {H : Type} : List (DataW H) → Nat
  | [] => 0
  | d :: r => uptoBulk d + uptoBulkAll r
def uptoBulkEntries {H : Type} : List (Lit × DataW H) → Nat
  | [] => 0
  | x :: r => uptoBulkEntry x + uptoBulkEntries r
def uptoBulkEntry {H : Type} : Lit × DataW H → Nat
  | (.string bytes, d) => bytes.length + uptoBulk d + 1
  | (_, d) => uptoBulk d + 1
 end
def uptoSmall : (H : Type) → List (DataW H) → Bool := fun _ ds => decide (uptoBulkAll ds ≤ 1048576)
def OpenSpec.upto (s : _root_.Go.ChangeSpec) : _root_.Go.OpenSpec := { _root_.Go.OpenSpec.ofChange s with cond := some uptoSmall }

/-- 'laws.FnExactListPlan', WHERE WHAT IT READS IS OF BULK AT MOST 1048576: true; the input reads as it did. -/
def fnExactListPlanUptoRow : OpenClaim := { program := "ytejgpecmjfgfbaadoor", sum := "04c8e27be870da7aec71908e8c1809759b2d7de92c1d17e03ac335c967f4440b", func := "loop.example/g01103/laws.FnExactListPlan", spec := "fnExactListPlan", unfollowed := true, recurses := true, named := ["math/bits.deBruijn32tab", "math/bits.deBruijn64tab"], apart := false, laid := [("math/bits.deBruijn32tab", laid_math_bits_deBruijn32tab), ("math/bits.deBruijn64tab", laid_math_bits_deBruijn64tab)], narrowed := true }
def FnExactListPlanUptoSaid : Prop := fnExactListPlanUptoRow.holds Tryd.pinned (OpenSpec.upto fnExactListPlanSpec)

/-- 'laws.FnExactLongestFirst', WHERE WHAT IT READS IS OF BULK AT MOST 1048576: true; the input reads as it did. -/
def fnExactLongestFirstUptoRow : OpenClaim := { program := "ytejgpecmjfgfbaadoor", sum := "04c8e27be870da7aec71908e8c1809759b2d7de92c1d17e03ac335c967f4440b", func := "loop.example/g01103/laws.FnExactLongestFirst", spec := "fnExactLongestFirst", unfollowed := true, recurses := true, named := ["math/bits.deBruijn32tab", "math/bits.deBruijn64tab"], apart := false, laid := [("math/bits.deBruijn32tab", laid_math_bits_deBruijn32tab), ("math/bits.deBruijn64tab", laid_math_bits_deBruijn64tab)], narrowed := true }
def FnExactLongestFirstUptoSaid : Prop := fnExactLongestFirstUptoRow.holds Tryd.pinned (OpenSpec.upto fnExactLongestFirstSpec)

/-- 'laws.FnExactTailsFirst', WHERE WHAT IT READS IS OF BULK AT MOST 1048576: true; the input reads as it did. -/
def fnExactTailsFirstUptoRow : OpenClaim := { program := "ytejgpecmjfgfbaadoor", sum := "04c8e27be870da7aec71908e8c1809759b2d7de92c1d17e03ac335c967f4440b", func := "loop.example/g01103/laws.FnExactTailsFirst", spec := "fnExactTailsFirst", unfollowed := true, recurses := true, named := ["math/bits.deBruijn32tab", "math/bits.deBruijn64tab"], apart := false, laid := [("math/bits.deBruijn32tab", laid_math_bits_deBruijn32tab), ("math/bits.deBruijn64tab", laid_math_bits_deBruijn64tab)], narrowed := true }
def FnExactTailsFirstUptoSaid : Prop := fnExactTailsFirstUptoRow.holds Tryd.pinned (OpenSpec.upto fnExactTailsFirstSpec)

/-- 'laws.FnExactLongerWith', WHERE WHAT IT READS IS OF BULK AT MOST 1048576: true; the input reads as it did. -/
def fnExactLongerWithUptoRow : OpenClaim := { program := "ytejgpecmjfgfbaadoor", sum := "04c8e27be870da7aec71908e8c1809759b2d7de92c1d17e03ac335c967f4440b", func := "loop.example/g01103/laws.FnExactLongerWith", spec := "fnExactLongerWith", unfollowed := true, recurses := true, named := ["math/bits.deBruijn32tab", "math/bits.deBruijn64tab"], apart := false, laid := [("math/bits.deBruijn32tab", laid_math_bits_deBruijn32tab), ("math/bits.deBruijn64tab", laid_math_bits_deBruijn64tab)], narrowed := true }
def FnExactLongerWithUptoSaid : Prop := fnExactLongerWithUptoRow.holds Tryd.pinned (OpenSpec.upto fnExactLongerWithSpec)

/-- 'laws.FnExactTotalEnd', WHERE WHAT IT READS IS OF BULK AT MOST 1048576: true; the input reads as it did. -/
def fnExactTotalEndUptoRow : OpenClaim := { program := "ytejgpecmjfgfbaadoor", sum := "04c8e27be870da7aec71908e8c1809759b2d7de92c1d17e03ac335c967f4440b", func := "loop.example/g01103/laws.FnExactTotalEnd", spec := "fnExactTotalEnd", unfollowed := true, recurses := true, named := ["math/bits.deBruijn32tab", "math/bits.deBruijn64tab"], apart := false, laid := [("math/bits.deBruijn32tab", laid_math_bits_deBruijn32tab), ("math/bits.deBruijn64tab", laid_math_bits_deBruijn64tab)], narrowed := true }
def FnExactTotalEndUptoSaid : Prop := fnExactTotalEndUptoRow.holds Tryd.pinned (OpenSpec.upto fnExactTotalEndSpec)

/-- 'laws.FnExactLongerWithout', WHERE WHAT IT READS IS OF BULK AT MOST 1048576: true; the input reads as it did. -/
def fnExactLongerWithoutUptoRow : OpenClaim := { program := "ytejgpecmjfgfbaadoor", sum := "04c8e27be870da7aec71908e8c1809759b2d7de92c1d17e03ac335c967f4440b", func := "loop.example/g01103/laws.FnExactLongerWithout", spec := "fnExactLongerWithout", unfollowed := true, recurses := true, named := ["math/bits.deBruijn32tab", "math/bits.deBruijn64tab"], apart := false, laid := [("math/bits.deBruijn32tab", laid_math_bits_deBruijn32tab), ("math/bits.deBruijn64tab", laid_math_bits_deBruijn64tab)], narrowed := true }
def FnExactLongerWithoutUptoSaid : Prop := fnExactLongerWithoutUptoRow.holds Tryd.pinned (OpenSpec.upto fnExactLongerWithoutSpec)

/-- 'laws.FnExactIdleChain', WHERE WHAT IT READS IS OF BULK AT MOST 1048576: true; the input reads as it did. -/
def fnExactIdleChainUptoRow : OpenClaim := { program := "ytejgpecmjfgfbaadoor", sum := "04c8e27be870da7aec71908e8c1809759b2d7de92c1d17e03ac335c967f4440b", func := "loop.example/g01103/laws.FnExactIdleChain", spec := "fnExactIdleChain", unfollowed := true, recurses := true, named := ["math/bits.deBruijn32tab", "math/bits.deBruijn64tab"], apart := false, laid := [("math/bits.deBruijn32tab", laid_math_bits_deBruijn32tab), ("math/bits.deBruijn64tab", laid_math_bits_deBruijn64tab)], narrowed := true }
def FnExactIdleChainUptoSaid : Prop := fnExactIdleChainUptoRow.holds Tryd.pinned (OpenSpec.upto fnExactIdleChainSpec)

/-- 'laws.FnExactLabelPlan', WHERE WHAT IT READS IS OF BULK AT MOST 1048576: true; the input reads as it did. -/
def fnExactLabelPlanUptoRow : OpenClaim := { program := "ytejgpecmjfgfbaadoor", sum := "04c8e27be870da7aec71908e8c1809759b2d7de92c1d17e03ac335c967f4440b", func := "loop.example/g01103/laws.FnExactLabelPlan", spec := "fnExactLabelPlan", unfollowed := true, recurses := true, named := ["math/bits.deBruijn32tab", "math/bits.deBruijn64tab"], apart := false, laid := [("math/bits.deBruijn32tab", laid_math_bits_deBruijn32tab), ("math/bits.deBruijn64tab", laid_math_bits_deBruijn64tab)], narrowed := true }
def FnExactLabelPlanUptoSaid : Prop := fnExactLabelPlanUptoRow.holds Tryd.pinned (OpenSpec.upto fnExactLabelPlanSpec)

end Rows
end Go.Proofs.YtejgpecmjfgfbaaDoor
