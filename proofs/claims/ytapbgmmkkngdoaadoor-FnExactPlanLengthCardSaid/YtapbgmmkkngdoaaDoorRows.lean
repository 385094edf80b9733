/-
  NARROWER THAN 'FOR EVERY INPUT', by the rows' own cells (each row's printed sentence says how): FnExactIsPrecedence: laid · FnExactPrecedenceClosure: laid · FnExactPrecedenceReduction: laid · FnExactIsExtension: laid · FnExactTailsOf: laid · FnExactLengthBound: laid · FnExactIsPlan: laid · FnExactPlanLength: laid.
  DERIVED. THE GIVEN ROWS OF THIS SEAT. 8 by the template 'for every input the law returns true; each argument reads behind the call as it read before'; 0 by the template 'total and deterministic' (their statements: YtapbgmmkkngdoaaDoorTotals.lean).
  GIVEN WITH THE SEED: the statements are not yours to turn. If you find one false, say at which input.
  Laid BY PROGRAM, IN A SANDBOX (cutbox-rows.mjs): the forced cells as the released guide's own fill.sh prints them over the translation 99f4cdde976cd4c8… (all of the seat's roots in one cut). By AI agents, Wed Nov 11 2026. No macro, syntax, notation, axiom, sorry.
-/
import Derived.Test.YtapbgmmkkngdoaaDoorChecked
import GoSem.Claim
import GoSem.ClaimJoined
import GoSem.ClaimMapViews
import Derived.JoinedTies
import Derived.KernelRfl
namespace Go.Proofs.YtapbgmmkkngdoaaDoor
/- THE CELL 'sum', in the pinned program and in every row, IS THE sha256 OF THE DUMP (.gsa) THAT YtapbgmmkkngdoaaDoorProg.lean LOADS. Nothing in Lean hashes anything: it is a label: what it is worth is what the hold of that sum in a sandbox is worth. -/
noncomputable def Tryd.pinned : Pinned := { name := "ytapbgmmkkngdoaadoor", sum := "99f4cdde976cd4c82531df2328f9c2799edbda80c024bb09501ef3d62a138816", checked := Tryd.checked }
namespace Rows
def none {H : Type} : Left H := { results := [], args := [] }

/- WHAT THE LISTED PACKAGE-LEVEL VARIABLES READ AS WHEN THE CALL BEGINS. Each datum BY PROGRAM (the guide's laid-datum.mjs) off the statement by which the dump's own 'gosem.cut.vars' lays the variable. In a bare row this is a premise. The card (YtapbgmmkkngdoaaDoorCards.lean) ties it to the program's text. -/
def laid_math_bits_deBruijn32tab {H : Type} : DataW H := .agg [.lit (.int .u8 0), .lit (.int .u8 1), .lit (.int .u8 28), .lit (.int .u8 2), .lit (.int .u8 29), .lit (.int .u8 14), .lit (.int .u8 24), .lit (.int .u8 3), .lit (.int .u8 30), .lit (.int .u8 22), .lit (.int .u8 20), .lit (.int .u8 15), .lit (.int .u8 25), .lit (.int .u8 17), .lit (.int .u8 4), .lit (.int .u8 8), .lit (.int .u8 31), .lit (.int .u8 27), .lit (.int .u8 13), .lit (.int .u8 23), .lit (.int .u8 21), .lit (.int .u8 19), .lit (.int .u8 16), .lit (.int .u8 7), .lit (.int .u8 26), .lit (.int .u8 12), .lit (.int .u8 18), .lit (.int .u8 6), .lit (.int .u8 11), .lit (.int .u8 5), .lit (.int .u8 10), .lit (.int .u8 9)]
def laid_math_bits_deBruijn64tab {H : Type} : DataW H := .agg [.lit (.int .u8 0), .lit (.int .u8 1), .lit (.int .u8 56), .lit (.int .u8 2), .lit (.int .u8 57), .lit (.int .u8 49), .lit (.int .u8 28), .lit (.int .u8 3), .lit (.int .u8 61), .lit (.int .u8 58), .lit (.int .u8 42), .lit (.int .u8 50), .lit (.int .u8 38), .lit (.int .u8 29), .lit (.int .u8 17), .lit (.int .u8 4), .lit (.int .u8 62), .lit (.int .u8 47), .lit (.int .u8 59), .lit (.int .u8 36), .lit (.int .u8 45), .lit (.int .u8 43), .lit (.int .u8 51), .lit (.int .u8 22), .lit (.int .u8 53), .lit (.int .u8 39), .lit (.int .u8 33), .lit (.int .u8 30), .lit (.int .u8 24), .lit (.int .u8 18), .lit (.int .u8 12), .lit (.int .u8 5), .lit (.int .u8 63), .lit (.int .u8 55), .lit (.int .u8 48), .lit (.int .u8 27), .lit (.int .u8 60), .lit (.int .u8 41), .lit (.int .u8 37), .lit (.int .u8 16), .lit (.int .u8 46), .lit (.int .u8 35), .lit (.int .u8 44), .lit (.int .u8 21), .lit (.int .u8 52), .lit (.int .u8 32), .lit (.int .u8 23), .lit (.int .u8 11), .lit (.int .u8 54), .lit (.int .u8 26), .lit (.int .u8 40), .lit (.int .u8 15), .lit (.int .u8 34), .lit (.int .u8 20), .lit (.int .u8 31), .lit (.int .u8 10), .lit (.int .u8 25), .lit (.int .u8 14), .lit (.int .u8 19), .lit (.int .u8 9), .lit (.int .u8 13), .lit (.int .u8 8), .lit (.int .u8 7), .lit (.int .u8 6)]

/-- 'laws.FnExactIsPrecedence': WHATEVER THE INPUT: true; the input reads as it did. -/
def fnExactIsPrecedenceSpec : ChangeSpec := { name := "fnExactIsPrecedence", fn := fun _ => fun
  | [d1, d2] => { results := [.lit (.bool true)], args := [d1, d2] }
  | _ => none }
def fnExactIsPrecedenceRow : OpenClaim := { program := "ytapbgmmkkngdoaadoor", sum := "99f4cdde976cd4c82531df2328f9c2799edbda80c024bb09501ef3d62a138816", func := "loop.example/g01103/laws.FnExactIsPrecedence", spec := "fnExactIsPrecedence", unfollowed := true, recurses := true, named := ["math/bits.deBruijn32tab", "math/bits.deBruijn64tab"], apart := false, laid := [("math/bits.deBruijn32tab", laid_math_bits_deBruijn32tab), ("math/bits.deBruijn64tab", laid_math_bits_deBruijn64tab)] }
def FnExactIsPrecedenceSaid : Prop := fnExactIsPrecedenceRow.holds Tryd.pinned (OpenSpec.ofChange fnExactIsPrecedenceSpec)

/-- ITS FALSE NEIGHBOUR: 'it returns false'. Refute it at one input. -/
def fnExactIsPrecedenceWrong : ChangeSpec := { name := "fnExactIsPrecedence", fn := fun _ => fun
  | [d1, d2] => { results := [.lit (.bool false)], args := [d1, d2] }
  | _ => none }
def FnExactIsPrecedenceWrongFalsely : Prop := fnExactIsPrecedenceRow.holds Tryd.pinned (OpenSpec.ofChange fnExactIsPrecedenceWrong)

/-- 'laws.FnExactPrecedenceClosure': WHATEVER THE INPUT: true; the input reads as it did. -/
def fnExactPrecedenceClosureSpec : ChangeSpec := { name := "fnExactPrecedenceClosure", fn := fun _ => fun
  | [d1, d2] => { results := [.lit (.bool true)], args := [d1, d2] }
  | _ => none }
def fnExactPrecedenceClosureRow : OpenClaim := { program := "ytapbgmmkkngdoaadoor", sum := "99f4cdde976cd4c82531df2328f9c2799edbda80c024bb09501ef3d62a138816", func := "loop.example/g01103/laws.FnExactPrecedenceClosure", spec := "fnExactPrecedenceClosure", unfollowed := true, recurses := true, named := ["math/bits.deBruijn32tab", "math/bits.deBruijn64tab"], apart := false, laid := [("math/bits.deBruijn32tab", laid_math_bits_deBruijn32tab), ("math/bits.deBruijn64tab", laid_math_bits_deBruijn64tab)] }
def FnExactPrecedenceClosureSaid : Prop := fnExactPrecedenceClosureRow.holds Tryd.pinned (OpenSpec.ofChange fnExactPrecedenceClosureSpec)

/-- ITS FALSE NEIGHBOUR: 'it returns false'. Refute it at one input. -/
def fnExactPrecedenceClosureWrong : ChangeSpec := { name := "fnExactPrecedenceClosure", fn := fun _ => fun
  | [d1, d2] => { results := [.lit (.bool false)], args := [d1, d2] }
  | _ => none }
def FnExactPrecedenceClosureWrongFalsely : Prop := fnExactPrecedenceClosureRow.holds Tryd.pinned (OpenSpec.ofChange fnExactPrecedenceClosureWrong)

/-- 'laws.FnExactPrecedenceReduction': WHATEVER THE INPUT: true; the input reads as it did. -/
def fnExactPrecedenceReductionSpec : ChangeSpec := { name := "fnExactPrecedenceReduction", fn := fun _ => fun
  | [d1, d2] => { results := [.lit (.bool true)], args := [d1, d2] }
  | _ => none }
def fnExactPrecedenceReductionRow : OpenClaim := { program := "ytapbgmmkkngdoaadoor", sum := "99f4cdde976cd4c82531df2328f9c2799edbda80c024bb09501ef3d62a138816", func := "loop.example/g01103/laws.FnExactPrecedenceReduction", spec := "fnExactPrecedenceReduction", unfollowed := true, recurses := true, named := ["math/bits.deBruijn32tab", "math/bits.deBruijn64tab"], apart := false, laid := [("math/bits.deBruijn32tab", laid_math_bits_deBruijn32tab), ("math/bits.deBruijn64tab", laid_math_bits_deBruijn64tab)] }
def FnExactPrecedenceReductionSaid : Prop := fnExactPrecedenceReductionRow.holds Tryd.pinned (OpenSpec.ofChange fnExactPrecedenceReductionSpec)

/-- ITS FALSE NEIGHBOUR: 'it returns false'. Refute it at one input. -/
def fnExactPrecedenceReductionWrong : ChangeSpec := { name := "fnExactPrecedenceReduction", fn := fun _ => fun
  | [d1, d2] => { results := [.lit (.bool false)], args := [d1, d2] }
  | _ => none }
def FnExactPrecedenceReductionWrongFalsely : Prop := fnExactPrecedenceReductionRow.holds Tryd.pinned (OpenSpec.ofChange fnExactPrecedenceReductionWrong)

/-- 'laws.FnExactIsExtension': WHATEVER THE INPUT: true; the input reads as it did. -/
def fnExactIsExtensionSpec : ChangeSpec := { name := "fnExactIsExtension", fn := fun _ => fun
  | [d1, d2, d3] => { results := [.lit (.bool true)], args := [d1, d2, d3] }
  | _ => none }
def fnExactIsExtensionRow : OpenClaim := { program := "ytapbgmmkkngdoaadoor", sum := "99f4cdde976cd4c82531df2328f9c2799edbda80c024bb09501ef3d62a138816", func := "loop.example/g01103/laws.FnExactIsExtension", spec := "fnExactIsExtension", unfollowed := true, recurses := true, named := ["math/bits.deBruijn32tab", "math/bits.deBruijn64tab"], apart := false, laid := [("math/bits.deBruijn32tab", laid_math_bits_deBruijn32tab), ("math/bits.deBruijn64tab", laid_math_bits_deBruijn64tab)] }
def FnExactIsExtensionSaid : Prop := fnExactIsExtensionRow.holds Tryd.pinned (OpenSpec.ofChange fnExactIsExtensionSpec)

/-- ITS FALSE NEIGHBOUR: 'it returns false'. Refute it at one input. -/
def fnExactIsExtensionWrong : ChangeSpec := { name := "fnExactIsExtension", fn := fun _ => fun
  | [d1, d2, d3] => { results := [.lit (.bool false)], args := [d1, d2, d3] }
  | _ => none }
def FnExactIsExtensionWrongFalsely : Prop := fnExactIsExtensionRow.holds Tryd.pinned (OpenSpec.ofChange fnExactIsExtensionWrong)

/-- 'laws.FnExactTailsOf': WHATEVER THE INPUT: true; the input reads as it did. -/
def fnExactTailsOfSpec : ChangeSpec := { name := "fnExactTailsOf", fn := fun _ => fun
  | [d1, d2] => { results := [.lit (.bool true)], args := [d1, d2] }
  | _ => none }
def fnExactTailsOfRow : OpenClaim := { program := "ytapbgmmkkngdoaadoor", sum := "99f4cdde976cd4c82531df2328f9c2799edbda80c024bb09501ef3d62a138816", func := "loop.example/g01103/laws.FnExactTailsOf", spec := "fnExactTailsOf", unfollowed := true, recurses := true, named := ["math/bits.deBruijn32tab", "math/bits.deBruijn64tab"], apart := false, laid := [("math/bits.deBruijn32tab", laid_math_bits_deBruijn32tab), ("math/bits.deBruijn64tab", laid_math_bits_deBruijn64tab)] }
def FnExactTailsOfSaid : Prop := fnExactTailsOfRow.holds Tryd.pinned (OpenSpec.ofChange fnExactTailsOfSpec)

/-- ITS FALSE NEIGHBOUR: 'it returns false'. Refute it at one input. -/
def fnExactTailsOfWrong : ChangeSpec := { name := "fnExactTailsOf", fn := fun _ => fun
  | [d1, d2] => { results := [.lit (.bool false)], args := [d1, d2] }
  | _ => none }
def FnExactTailsOfWrongFalsely : Prop := fnExactTailsOfRow.holds Tryd.pinned (OpenSpec.ofChange fnExactTailsOfWrong)

/-- 'laws.FnExactLengthBound': WHATEVER THE INPUT: true; the input reads as it did. -/
def fnExactLengthBoundSpec : ChangeSpec := { name := "fnExactLengthBound", fn := fun _ => fun
  | [d1, d2, d3] => { results := [.lit (.bool true)], args := [d1, d2, d3] }
  | _ => none }
def fnExactLengthBoundRow : OpenClaim := { program := "ytapbgmmkkngdoaadoor", sum := "99f4cdde976cd4c82531df2328f9c2799edbda80c024bb09501ef3d62a138816", func := "loop.example/g01103/laws.FnExactLengthBound", spec := "fnExactLengthBound", unfollowed := true, recurses := true, named := ["math/bits.deBruijn32tab", "math/bits.deBruijn64tab"], apart := false, laid := [("math/bits.deBruijn32tab", laid_math_bits_deBruijn32tab), ("math/bits.deBruijn64tab", laid_math_bits_deBruijn64tab)] }
def FnExactLengthBoundSaid : Prop := fnExactLengthBoundRow.holds Tryd.pinned (OpenSpec.ofChange fnExactLengthBoundSpec)

/-- ITS FALSE NEIGHBOUR: 'it returns false'. Refute it at one input. -/
def fnExactLengthBoundWrong : ChangeSpec := { name := "fnExactLengthBound", fn := fun _ => fun
  | [d1, d2, d3] => { results := [.lit (.bool false)], args := [d1, d2, d3] }
  | _ => none }
def FnExactLengthBoundWrongFalsely : Prop := fnExactLengthBoundRow.holds Tryd.pinned (OpenSpec.ofChange fnExactLengthBoundWrong)

/-- 'laws.FnExactIsPlan': WHATEVER THE INPUT: true; the input reads as it did. -/
def fnExactIsPlanSpec : ChangeSpec := { name := "fnExactIsPlan", fn := fun _ => fun
  | [d1, d2, d3, d4] => { results := [.lit (.bool true)], args := [d1, d2, d3, d4] }
  | _ => none }
def fnExactIsPlanRow : OpenClaim := { program := "ytapbgmmkkngdoaadoor", sum := "99f4cdde976cd4c82531df2328f9c2799edbda80c024bb09501ef3d62a138816", func := "loop.example/g01103/laws.FnExactIsPlan", spec := "fnExactIsPlan", unfollowed := true, recurses := true, named := ["math/bits.deBruijn32tab", "math/bits.deBruijn64tab"], apart := false, laid := [("math/bits.deBruijn32tab", laid_math_bits_deBruijn32tab), ("math/bits.deBruijn64tab", laid_math_bits_deBruijn64tab)] }
def FnExactIsPlanSaid : Prop := fnExactIsPlanRow.holds Tryd.pinned (OpenSpec.ofChange fnExactIsPlanSpec)

/-- ITS FALSE NEIGHBOUR: 'it returns false'. Refute it at one input. -/
def fnExactIsPlanWrong : ChangeSpec := { name := "fnExactIsPlan", fn := fun _ => fun
  | [d1, d2, d3, d4] => { results := [.lit (.bool false)], args := [d1, d2, d3, d4] }
  | _ => none }
def FnExactIsPlanWrongFalsely : Prop := fnExactIsPlanRow.holds Tryd.pinned (OpenSpec.ofChange fnExactIsPlanWrong)

/-- 'laws.FnExactPlanLength': WHATEVER THE INPUT: true; the input reads as it did. -/
def fnExactPlanLengthSpec : ChangeSpec := { name := "fnExactPlanLength", fn := fun _ => fun
  | [d1, d2, d3, d4] => { results := [.lit (.bool true)], args := [d1, d2, d3, d4] }
  | _ => none }
def fnExactPlanLengthRow : OpenClaim := { program := "ytapbgmmkkngdoaadoor", sum := "99f4cdde976cd4c82531df2328f9c2799edbda80c024bb09501ef3d62a138816", func := "loop.example/g01103/laws.FnExactPlanLength", spec := "fnExactPlanLength", unfollowed := true, recurses := true, named := ["math/bits.deBruijn32tab", "math/bits.deBruijn64tab"], apart := false, laid := [("math/bits.deBruijn32tab", laid_math_bits_deBruijn32tab), ("math/bits.deBruijn64tab", laid_math_bits_deBruijn64tab)] }
def FnExactPlanLengthSaid : Prop := fnExactPlanLengthRow.holds Tryd.pinned (OpenSpec.ofChange fnExactPlanLengthSpec)

/-- ITS FALSE NEIGHBOUR: 'it returns false'. Refute it at one input. -/
def fnExactPlanLengthWrong : ChangeSpec := { name := "fnExactPlanLength", fn := fun _ => fun
  | [d1, d2, d3, d4] => { results := [.lit (.bool false)], args := [d1, d2, d3, d4] }
  | _ => none }
def FnExactPlanLengthWrongFalsely : Prop := fnExactPlanLengthRow.holds Tryd.pinned (OpenSpec.ofChange fnExactPlanLengthWrong)

/- THE SECOND FORM. 'bulk': how many values and letters a reading holds, each counted each time it is reached (what is shared counts as often as it is met; a slice's spare places count too). A statement '..UptoSaid' is the law's where the arguments, and the package variables that the reading takes, are together of bulk at most 1048576: NARROWER than '..Said'. Prove '..Said' where nothing that the law and all that it calls make is longer than what came in: it says more and counts as full. Else prove '..UptoSaid'. A law counts once. -/
mutual
def uptoBulk {H : Type} : DataW H → Nat
  | .lit (.string bytes) => bytes.length + 1
  | .lit _ => 1
  | .nil => 1
  | .ptr d => uptoBulk d + 1
  | .slice elems spare => uptoBulkAll elems + uptoBulkAll spare + 1
  | .agg parts => uptoBulkAll parts + 1
  | .iface _ d => uptoBulk d + 1
  | .map entries => uptoBulkEntries entries + 1
  | .held _ => 1
def uptoBulkAll {H : Type} : List (DataW H) → Nat
  | [] => 0
  | d :: r => uptoBulk d + uptoBulkAll r
def uptoBulkEntries {H : Type} : List (Lit × DataW H) → Nat
  | [] => 0
  | x :: r => uptoBulkEntry x + uptoBulkEntries r
def uptoBulkEntry {H : Type} : Lit × DataW H → Nat
  | (.string bytes, d) => bytes.length + uptoBulk d + 1
  | (_, d) => uptoBulk d + 1
 end
def uptoSmall : (H : Type) → List (DataW H) → Bool := fun _ ds => decide (uptoBulkAll ds ≤ 1048576)
def OpenSpec.upto (s : _root_.Go.ChangeSpec) : _root_.Go.OpenSpec := { _root_.Go.OpenSpec.ofChange s with cond := some uptoSmall }

/-- 'laws.FnExactIsPrecedence', WHERE WHAT IT READS IS OF BULK AT MOST 1048576: true; the input reads as it did. -/
def fnExactIsPrecedenceUptoRow : OpenClaim := { program := "ytapbgmmkkngdoaadoor", sum := "99f4cdde976cd4c82531df2328f9c2799edbda80c024bb09501ef3d62a138816", func := "loop.example/g01103/laws.FnExactIsPrecedence", spec := "fnExactIsPrecedence", unfollowed := true, recurses := true, named := ["math/bits.deBruijn32tab", "math/bits.deBruijn64tab"], apart := false, laid := [("math/bits.deBruijn32tab", laid_math_bits_deBruijn32tab), ("math/bits.deBruijn64tab", laid_math_bits_deBruijn64tab)], narrowed := true }
def FnExactIsPrecedenceUptoSaid : Prop := fnExactIsPrecedenceUptoRow.holds Tryd.pinned (OpenSpec.upto fnExactIsPrecedenceSpec)

/-- 'laws.FnExactPrecedenceClosure', WHERE WHAT IT READS IS OF BULK AT MOST 1048576: true; the input reads as it did. -/
def fnExactPrecedenceClosureUptoRow : OpenClaim := { program := "ytapbgmmkkngdoaadoor", sum := "99f4cdde976cd4c82531df2328f9c2799edbda80c024bb09501ef3d62a138816", func := "loop.example/g01103/laws.FnExactPrecedenceClosure", spec := "fnExactPrecedenceClosure", unfollowed := true, recurses := true, named := ["math/bits.deBruijn32tab", "math/bits.deBruijn64tab"], apart := false, laid := [("math/bits.deBruijn32tab", laid_math_bits_deBruijn32tab), ("math/bits.deBruijn64tab", laid_math_bits_deBruijn64tab)], narrowed := true }
def FnExactPrecedenceClosureUptoSaid : Prop := fnExactPrecedenceClosureUptoRow.holds Tryd.pinned (OpenSpec.upto fnExactPrecedenceClosureSpec)

/-- 'laws.FnExactPrecedenceReduction', WHERE WHAT IT READS IS OF BULK AT MOST 1048576: true; the input reads as it did. -/
def fnExactPrecedenceReductionUptoRow : OpenClaim := { program := "ytapbgmmkkngdoaadoor", sum := "99f4cdde976cd4c82531df2328f9c2799edbda80c024bb09501ef3d62a138816", func := "loop.example/g01103/laws.FnExactPrecedenceReduction", spec := "fnExactPrecedenceReduction", unfollowed := true, recurses := true, named := ["math/bits.deBruijn32tab", "math/bits.deBruijn64tab"], apart := false, laid := [("math/bits.deBruijn32tab", laid_math_bits_deBruijn32tab), ("math/bits.deBruijn64tab", laid_math_bits_deBruijn64tab)], narrowed := true }
def FnExactPrecedenceReductionUptoSaid : Prop := fnExactPrecedenceReductionUptoRow.holds Tryd.pinned (OpenSpec.upto fnExactPrecedenceReductionSpec)

/-- 'laws.FnExactIsExtension', WHERE WHAT IT READS IS OF BULK AT MOST 1048576: true; the input reads as it did. -/
def fnExactIsExtensionUptoRow : OpenClaim := { program := "ytapbgmmkkngdoaadoor", sum := "99f4cdde976cd4c82531df2328f9c2799edbda80c024bb09501ef3d62a138816", func := "loop.example/g01103/laws.FnExactIsExtension", spec := "fnExactIsExtension", unfollowed := true, recurses := true, named := ["math/bits.deBruijn32tab", "math/bits.deBruijn64tab"], apart := false, laid := [("math/bits.deBruijn32tab", laid_math_bits_deBruijn32tab), ("math/bits.deBruijn64tab", laid_math_bits_deBruijn64tab)], narrowed := true }
def FnExactIsExtensionUptoSaid : Prop := fnExactIsExtensionUptoRow.holds Tryd.pinned (OpenSpec.upto fnExactIsExtensionSpec)

/-- 'laws.FnExactTailsOf', WHERE WHAT IT READS IS OF BULK AT MOST 1048576: true; the input reads as it did. -/
def fnExactTailsOfUptoRow : OpenClaim := { program := "ytapbgmmkkngdoaadoor", sum := "99f4cdde976cd4c82531df2328f9c2799edbda80c024bb09501ef3d62a138816", func := "loop.example/g01103/laws.FnExactTailsOf", spec := "fnExactTailsOf", unfollowed := true, recurses := true, named := ["math/bits.deBruijn32tab", "math/bits.deBruijn64tab"], apart := false, laid := [("math/bits.deBruijn32tab", laid_math_bits_deBruijn32tab), ("math/bits.deBruijn64tab", laid_math_bits_deBruijn64tab)], narrowed := true }
def FnExactTailsOfUptoSaid : Prop := fnExactTailsOfUptoRow.holds Tryd.pinned (OpenSpec.upto fnExactTailsOfSpec)

/-- 'laws.FnExactLengthBound', WHERE WHAT IT READS IS OF BULK AT MOST 1048576: true; the input reads as it did. -/
def fnExactLengthBoundUptoRow : OpenClaim := { program := "ytapbgmmkkngdoaadoor", sum := "99f4cdde976cd4c82531df2328f9c2799edbda80c024bb09501ef3d62a138816", func := "loop.example/g01103/laws.FnExactLengthBound", spec := "fnExactLengthBound", unfollowed := true, recurses := true, named := ["math/bits.deBruijn32tab", "math/bits.deBruijn64tab"], apart := false, laid := [("math/bits.deBruijn32tab", laid_math_bits_deBruijn32tab), ("math/bits.deBruijn64tab", laid_math_bits_deBruijn64tab)], narrowed := true }
def FnExactLengthBoundUptoSaid : Prop := fnExactLengthBoundUptoRow.holds Tryd.pinned (OpenSpec.upto fnExactLengthBoundSpec)

/-- 'laws.FnExactIsPlan', WHERE WHAT IT READS IS OF BULK AT MOST 1048576: true; the input reads as it did. -/
def fnExactIsPlanUptoRow : OpenClaim := { program := "ytapbgmmkkngdoaadoor", sum := "99f4cdde976cd4c82531df2328f9c2799edbda80c024bb09501ef3d62a138816", func := "loop.example/g01103/laws.FnExactIsPlan", spec := "fnExactIsPlan", unfollowed := true, recurses := true, named := ["math/bits.deBruijn32tab", "math/bits.deBruijn64tab"], apart := false, laid := [("math/bits.deBruijn32tab", laid_math_bits_deBruijn32tab), ("math/bits.deBruijn64tab", laid_math_bits_deBruijn64tab)], narrowed := true }
def FnExactIsPlanUptoSaid : Prop := fnExactIsPlanUptoRow.holds Tryd.pinned (OpenSpec.upto fnExactIsPlanSpec)

/-- 'laws.FnExactPlanLength', WHERE WHAT IT READS IS OF BULK AT MOST 1048576: true; the input reads as it did. -/
def fnExactPlanLengthUptoRow : OpenClaim := { program := "ytapbgmmkkngdoaadoor", sum := "99f4cdde976cd4c82531df2328f9c2799edbda80c024bb09501ef3d62a138816", func := "loop.example/g01103/laws.FnExactPlanLength", spec := "fnExactPlanLength", unfollowed := true, recurses := true, named := ["math/bits.deBruijn32tab", "math/bits.deBruijn64tab"], apart := false, laid := [("math/bits.deBruijn32tab", laid_math_bits_deBruijn32tab), ("math/bits.deBruijn64tab", laid_math_bits_deBruijn64tab)], narrowed := true }
def FnExactPlanLengthUptoSaid : Prop := fnExactPlanLengthUptoRow.holds Tryd.pinned (OpenSpec.upto fnExactPlanLengthSpec)

end Rows
end Go.Proofs.YtapbgmmkkngdoaaDoor
