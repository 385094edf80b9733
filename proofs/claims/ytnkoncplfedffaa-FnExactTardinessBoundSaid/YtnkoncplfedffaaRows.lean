/-
  No cell of these rows narrows 'for every input' (looked for: loops, veiled, ifaces, maps, wideKeys, modest, calm, conditions, laid).
  DERIVED. THE GIVEN ROWS OF THIS SEAT. 8 by the template 'for every input the law returns true; each argument reads behind the call as it read before'; 0 by the template 'total and deterministic' (their statements: YtnkoncplfedffaaTotals.lean).
  GIVEN WITH THE SEED: the statements are not yours to turn. If you find one false, say at which input.
  Laid BY PROGRAM, IN A SANDBOX (cutbox-rows.mjs): the forced cells as the released guide's own fill.sh prints them over the translation 01817fad899676b8… (all of the seat's roots in one cut). By AI agents, Wed Nov 11 2026. No macro, syntax, notation, axiom, sorry.
-/
import Derived.Test.YtnkoncplfedffaaChecked
import GoSem.Claim
import GoSem.ClaimJoined
import GoSem.ClaimMapViews
import Derived.JoinedTies
import Derived.KernelRfl
namespace Go.Proofs.Ytnkoncplfedffaa
/- THE CELL 'sum', in the pinned program and in every row, IS THE sha256 OF THE DUMP (.gsa) THAT YtnkoncplfedffaaProg.lean LOADS. Nothing in Lean hashes anything: it is a label: what it is worth is what the hold of that sum in a sandbox is worth. -/
noncomputable def Try.pinned : Pinned := { name := "ytnkoncplfedffaa", sum := "01817fad899676b8e5a2f5ff6b46ecbd47d28884fa372982aa6396a13ee74b3e", checked := Try.checked }
namespace Rows
def none {H : Type} : Left H := { results := [], args := [] }

/-- 'laws.FnExactComesBefore': WHATEVER THE INPUT: true; the input reads as it did. -/
def fnExactComesBeforeSpec : ChangeSpec := { name := "fnExactComesBefore", fn := fun _ => fun
  | [d1, d2, d3] => { results := [.lit (.bool true)], args := [d1, d2, d3] }
  | _ => none }
def fnExactComesBeforeRow : OpenClaim := { program := "ytnkoncplfedffaa", sum := "01817fad899676b8e5a2f5ff6b46ecbd47d28884fa372982aa6396a13ee74b3e", func := "loop.example/g01103/laws.FnExactComesBefore", spec := "fnExactComesBefore", unfollowed := true, recurses := true, apart := false }
def FnExactComesBeforeSaid : Prop := fnExactComesBeforeRow.holds Try.pinned (OpenSpec.ofChange fnExactComesBeforeSpec)

/-- ITS FALSE NEIGHBOUR: 'it returns false'. Refute it at one input. -/
def fnExactComesBeforeWrong : ChangeSpec := { name := "fnExactComesBefore", fn := fun _ => fun
  | [d1, d2, d3] => { results := [.lit (.bool false)], args := [d1, d2, d3] }
  | _ => none }
def FnExactComesBeforeWrongFalsely : Prop := fnExactComesBeforeRow.holds Try.pinned (OpenSpec.ofChange fnExactComesBeforeWrong)

/-- 'laws.FnExactAreAgreeable': WHATEVER THE INPUT: true; the input reads as it did. -/
def fnExactAreAgreeableSpec : ChangeSpec := { name := "fnExactAreAgreeable", fn := fun _ => fun
  | [d] => { results := [.lit (.bool true)], args := [d] }
  | _ => none }
def fnExactAreAgreeableRow : OpenClaim := { program := "ytnkoncplfedffaa", sum := "01817fad899676b8e5a2f5ff6b46ecbd47d28884fa372982aa6396a13ee74b3e", func := "loop.example/g01103/laws.FnExactAreAgreeable", spec := "fnExactAreAgreeable", unfollowed := true, recurses := true, apart := false }
def FnExactAreAgreeableSaid : Prop := fnExactAreAgreeableRow.holds Try.pinned (OpenSpec.ofChange fnExactAreAgreeableSpec)

/-- ITS FALSE NEIGHBOUR: 'it returns false'. Refute it at one input. -/
def fnExactAreAgreeableWrong : ChangeSpec := { name := "fnExactAreAgreeable", fn := fun _ => fun
  | [d] => { results := [.lit (.bool false)], args := [d] }
  | _ => none }
def FnExactAreAgreeableWrongFalsely : Prop := fnExactAreAgreeableRow.holds Try.pinned (OpenSpec.ofChange fnExactAreAgreeableWrong)

/-- 'laws.FnExactTardinessBound': WHATEVER THE INPUT: true; the input reads as it did. -/
def fnExactTardinessBoundSpec : ChangeSpec := { name := "fnExactTardinessBound", fn := fun _ => fun
  | [d] => { results := [.lit (.bool true)], args := [d] }
  | _ => none }
def fnExactTardinessBoundRow : OpenClaim := { program := "ytnkoncplfedffaa", sum := "01817fad899676b8e5a2f5ff6b46ecbd47d28884fa372982aa6396a13ee74b3e", func := "loop.example/g01103/laws.FnExactTardinessBound", spec := "fnExactTardinessBound", unfollowed := true, recurses := true, apart := false }
def FnExactTardinessBoundSaid : Prop := fnExactTardinessBoundRow.holds Try.pinned (OpenSpec.ofChange fnExactTardinessBoundSpec)

/-- ITS FALSE NEIGHBOUR: 'it returns false'. Refute it at one input. -/
def fnExactTardinessBoundWrong : ChangeSpec := { name := "fnExactTardinessBound", fn := fun _ => fun
  | [d] => { results := [.lit (.bool false)], args := [d] }
  | _ => none }
def FnExactTardinessBoundWrongFalsely : Prop := fnExactTardinessBoundRow.holds Try.pinned (OpenSpec.ofChange fnExactTardinessBoundWrong)

/-- 'laws.FnExactByLeastRest': WHATEVER THE INPUT: true; the input reads as it did. -/
def fnExactByLeastRestSpec : ChangeSpec := { name := "fnExactByLeastRest", fn := fun _ => fun
  | [d] => { results := [.lit (.bool true)], args := [d] }
  | _ => none }
def fnExactByLeastRestRow : OpenClaim := { program := "ytnkoncplfedffaa", sum := "01817fad899676b8e5a2f5ff6b46ecbd47d28884fa372982aa6396a13ee74b3e", func := "loop.example/g01103/laws.FnExactByLeastRest", spec := "fnExactByLeastRest", unfollowed := true, recurses := true, apart := false }
def FnExactByLeastRestSaid : Prop := fnExactByLeastRestRow.holds Try.pinned (OpenSpec.ofChange fnExactByLeastRestSpec)

/-- ITS FALSE NEIGHBOUR: 'it returns false'. Refute it at one input. -/
def fnExactByLeastRestWrong : ChangeSpec := { name := "fnExactByLeastRest", fn := fun _ => fun
  | [d] => { results := [.lit (.bool false)], args := [d] }
  | _ => none }
def FnExactByLeastRestWrongFalsely : Prop := fnExactByLeastRestRow.holds Try.pinned (OpenSpec.ofChange fnExactByLeastRestWrong)

/-- 'laws.FnExactByEarliestDate': WHATEVER THE INPUT: true; the input reads as it did. -/
def fnExactByEarliestDateSpec : ChangeSpec := { name := "fnExactByEarliestDate", fn := fun _ => fun
  | [d] => { results := [.lit (.bool true)], args := [d] }
  | _ => none }
def fnExactByEarliestDateRow : OpenClaim := { program := "ytnkoncplfedffaa", sum := "01817fad899676b8e5a2f5ff6b46ecbd47d28884fa372982aa6396a13ee74b3e", func := "loop.example/g01103/laws.FnExactByEarliestDate", spec := "fnExactByEarliestDate", unfollowed := true, recurses := true, apart := false }
def FnExactByEarliestDateSaid : Prop := fnExactByEarliestDateRow.holds Try.pinned (OpenSpec.ofChange fnExactByEarliestDateSpec)

/-- ITS FALSE NEIGHBOUR: 'it returns false'. Refute it at one input. -/
def fnExactByEarliestDateWrong : ChangeSpec := { name := "fnExactByEarliestDate", fn := fun _ => fun
  | [d] => { results := [.lit (.bool false)], args := [d] }
  | _ => none }
def FnExactByEarliestDateWrongFalsely : Prop := fnExactByEarliestDateRow.holds Try.pinned (OpenSpec.ofChange fnExactByEarliestDateWrong)

/-- 'laws.FnExactSplitGain': WHATEVER THE INPUT: true; the input reads as it did. -/
def fnExactSplitGainSpec : ChangeSpec := { name := "fnExactSplitGain", fn := fun _ => fun
  | [d1, d2] => { results := [.lit (.bool true)], args := [d1, d2] }
  | _ => none }
def fnExactSplitGainRow : OpenClaim := { program := "ytnkoncplfedffaa", sum := "01817fad899676b8e5a2f5ff6b46ecbd47d28884fa372982aa6396a13ee74b3e", func := "loop.example/g01103/laws.FnExactSplitGain", spec := "fnExactSplitGain", unfollowed := true, recurses := true, apart := false }
def FnExactSplitGainSaid : Prop := fnExactSplitGainRow.holds Try.pinned (OpenSpec.ofChange fnExactSplitGainSpec)

/-- ITS FALSE NEIGHBOUR: 'it returns false'. Refute it at one input. -/
def fnExactSplitGainWrong : ChangeSpec := { name := "fnExactSplitGain", fn := fun _ => fun
  | [d1, d2] => { results := [.lit (.bool false)], args := [d1, d2] }
  | _ => none }
def FnExactSplitGainWrongFalsely : Prop := fnExactSplitGainRow.holds Try.pinned (OpenSpec.ofChange fnExactSplitGainWrong)

/-- 'laws.FnExactPrefixBound': WHATEVER THE INPUT: true; the input reads as it did. -/
def fnExactPrefixBoundSpec : ChangeSpec := { name := "fnExactPrefixBound", fn := fun _ => fun
  | [d1, d2, d3] => { results := [.lit (.bool true)], args := [d1, d2, d3] }
  | _ => none }
def fnExactPrefixBoundRow : OpenClaim := { program := "ytnkoncplfedffaa", sum := "01817fad899676b8e5a2f5ff6b46ecbd47d28884fa372982aa6396a13ee74b3e", func := "loop.example/g01103/laws.FnExactPrefixBound", spec := "fnExactPrefixBound", unfollowed := true, recurses := true, apart := false }
def FnExactPrefixBoundSaid : Prop := fnExactPrefixBoundRow.holds Try.pinned (OpenSpec.ofChange fnExactPrefixBoundSpec)

/-- ITS FALSE NEIGHBOUR: 'it returns false'. Refute it at one input. -/
def fnExactPrefixBoundWrong : ChangeSpec := { name := "fnExactPrefixBound", fn := fun _ => fun
  | [d1, d2, d3] => { results := [.lit (.bool false)], args := [d1, d2, d3] }
  | _ => none }
def FnExactPrefixBoundWrongFalsely : Prop := fnExactPrefixBoundRow.holds Try.pinned (OpenSpec.ofChange fnExactPrefixBoundWrong)

/-- 'laws.FnExactOnTime': WHATEVER THE INPUT: true; the input reads as it did. -/
def fnExactOnTimeSpec : ChangeSpec := { name := "fnExactOnTime", fn := fun _ => fun
  | [d1, d2] => { results := [.lit (.bool true)], args := [d1, d2] }
  | _ => none }
def fnExactOnTimeRow : OpenClaim := { program := "ytnkoncplfedffaa", sum := "01817fad899676b8e5a2f5ff6b46ecbd47d28884fa372982aa6396a13ee74b3e", func := "loop.example/g01103/laws.FnExactOnTime", spec := "fnExactOnTime", unfollowed := true, recurses := true, apart := false }
def FnExactOnTimeSaid : Prop := fnExactOnTimeRow.holds Try.pinned (OpenSpec.ofChange fnExactOnTimeSpec)

/-- ITS FALSE NEIGHBOUR: 'it returns false'. Refute it at one input. -/
def fnExactOnTimeWrong : ChangeSpec := { name := "fnExactOnTime", fn := fun _ => fun
  | [d1, d2] => { results := [.lit (.bool false)], args := [d1, d2] }
  | _ => none }
def FnExactOnTimeWrongFalsely : Prop := fnExactOnTimeRow.holds Try.pinned (OpenSpec.ofChange fnExactOnTimeWrong)

/- THE SECOND FORM. 'bulk': how many values and letters a reading holds, each counted each time it is reached (what is shared counts as often as it is met; a slice's spare places count too). A statement '..UptoSaid' is the law's where the arguments, and the package variables that the reading takes, are together of bulk at most 1048576: NARROWER than '..Said'. Prove '..Said' where nothing that the law and all that it calls make is longer than what came in: it says more and counts as full. Else prove '..UptoSaid'. A law counts once. -/
mutual
def uptoBulk {H : Type} : DataW H → Nat
  | .lit (.string bytes) => bytes.length + 1
  | .lit _ => 1
  | .nil => 1
  | .ptr d => uptoBulk d + 1
  | .slice elems spare => uptoBulkAll elems + uptoBulkAll spare + 1
  | .agg parts => uptoBulkAll parts + 1
  | .iface _ d => uptoBulk d + 1
  | .map entries => uptoBulkEntries entries + 1
  | .held _ => 1
def uptoBulkAll {H : Type} : List (DataW H) → Nat
  | [] => 0
  | d :: r => uptoBulk d + uptoBulkAll r
def uptoBulkEntries {H : Type} : List (Lit × DataW H) → Nat
  | [] => 0
  | x :: r => uptoBulkEntry x + uptoBulkEntries r
def uptoBulkEntry {H : Type} : Lit × DataW H → Nat
  | (.string bytes, d) => bytes.length + uptoBulk d + 1
  | (_, d) => uptoBulk d + 1
 end
def uptoSmall : (H : Type) → List (DataW H) → Bool := fun _ ds => decide (uptoBulkAll ds ≤ 1048576)
def OpenSpec.upto (s : _root_.Go.ChangeSpec) : _root_.Go.OpenSpec := { _root_.Go.OpenSpec.ofChange s with cond := some uptoSmall }

/-- 'laws.FnExactComesBefore', WHERE WHAT IT READS IS OF BULK AT MOST 1048576: true; the input reads as it did. -/
def fnExactComesBeforeUptoRow : OpenClaim := { program := "ytnkoncplfedffaa", sum := "01817fad899676b8e5a2f5ff6b46ecbd47d28884fa372982aa6396a13ee74b3e", func := "loop.example/g01103/laws.FnExactComesBefore", spec := "fnExactComesBefore", unfollowed := true, recurses := true, apart := false, narrowed := true }
def FnExactComesBeforeUptoSaid : Prop := fnExactComesBeforeUptoRow.holds Try.pinned (OpenSpec.upto fnExactComesBeforeSpec)

/-- 'laws.FnExactAreAgreeable', WHERE WHAT IT READS IS OF BULK AT MOST 1048576: true; the input reads as it did. -/
def fnExactAreAgreeableUptoRow : OpenClaim := { program := "ytnkoncplfedffaa", sum := "01817fad899676b8e5a2f5ff6b46ecbd47d28884fa372982aa6396a13ee74b3e", func := "loop.example/g01103/laws.FnExactAreAgreeable", spec := "fnExactAreAgreeable", unfollowed := true, recurses := true, apart := false, narrowed := true }
def FnExactAreAgreeableUptoSaid : Prop := fnExactAreAgreeableUptoRow.holds Try.pinned (OpenSpec.upto fnExactAreAgreeableSpec)

/-- 'laws.FnExactTardinessBound', WHERE WHAT IT READS IS OF BULK AT MOST 1048576: true; the input reads as it did. -/
def fnExactTardinessBoundUptoRow : OpenClaim := { program := "ytnkoncplfedffaa", sum := "01817fad899676b8e5a2f5ff6b46ecbd47d28884fa372982aa6396a13ee74b3e", func := "loop.example/g01103/laws.FnExactTardinessBound", spec := "fnExactTardinessBound", unfollowed := true, recurses := true, apart := false, narrowed := true }
def FnExactTardinessBoundUptoSaid : Prop := fnExactTardinessBoundUptoRow.holds Try.pinned (OpenSpec.upto fnExactTardinessBoundSpec)

/-- 'laws.FnExactByLeastRest', WHERE WHAT IT READS IS OF BULK AT MOST 1048576: true; the input reads as it did. -/
def fnExactByLeastRestUptoRow : OpenClaim := { program := "ytnkoncplfedffaa", sum := "01817fad899676b8e5a2f5ff6b46ecbd47d28884fa372982aa6396a13ee74b3e", func := "loop.example/g01103/laws.FnExactByLeastRest", spec := "fnExactByLeastRest", unfollowed := true, recurses := true, apart := false, narrowed := true }
def FnExactByLeastRestUptoSaid : Prop := fnExactByLeastRestUptoRow.holds Try.pinned (OpenSpec.upto fnExactByLeastRestSpec)

/-- 'laws.FnExactByEarliestDate', WHERE WHAT IT READS IS OF BULK AT MOST 1048576: true; the input reads as it did. -/
def fnExactByEarliestDateUptoRow : OpenClaim := { program := "ytnkoncplfedffaa", sum := "01817fad899676b8e5a2f5ff6b46ecbd47d28884fa372982aa6396a13ee74b3e", func := "loop.example/g01103/laws.FnExactByEarliestDate", spec := "fnExactByEarliestDate", unfollowed := true, recurses := true, apart := false, narrowed := true }
def FnExactByEarliestDateUptoSaid : Prop := fnExactByEarliestDateUptoRow.holds Try.pinned (OpenSpec.upto fnExactByEarliestDateSpec)

/-- 'laws.FnExactSplitGain', WHERE WHAT IT READS IS OF BULK AT MOST 1048576: true; the input reads as it did. -/
def fnExactSplitGainUptoRow : OpenClaim := { program := "ytnkoncplfedffaa", sum := "01817fad899676b8e5a2f5ff6b46ecbd47d28884fa372982aa6396a13ee74b3e", func := "loop.example/g01103/laws.FnExactSplitGain", spec := "fnExactSplitGain", unfollowed := true, recurses := true, apart := false, narrowed := true }
def FnExactSplitGainUptoSaid : Prop := fnExactSplitGainUptoRow.holds Try.pinned (OpenSpec.upto fnExactSplitGainSpec)

/-- 'laws.FnExactPrefixBound', WHERE WHAT IT READS IS OF BULK AT MOST 1048576: true; the input reads as it did. -/
def fnExactPrefixBoundUptoRow : OpenClaim := { program := "ytnkoncplfedffaa", sum := "01817fad899676b8e5a2f5ff6b46ecbd47d28884fa372982aa6396a13ee74b3e", func := "loop.example/g01103/laws.FnExactPrefixBound", spec := "fnExactPrefixBound", unfollowed := true, recurses := true, apart := false, narrowed := true }
def FnExactPrefixBoundUptoSaid : Prop := fnExactPrefixBoundUptoRow.holds Try.pinned (OpenSpec.upto fnExactPrefixBoundSpec)

/-- 'laws.FnExactOnTime', WHERE WHAT IT READS IS OF BULK AT MOST 1048576: true; the input reads as it did. -/
def fnExactOnTimeUptoRow : OpenClaim := { program := "ytnkoncplfedffaa", sum := "01817fad899676b8e5a2f5ff6b46ecbd47d28884fa372982aa6396a13ee74b3e", func := "loop.example/g01103/laws.FnExactOnTime", spec := "fnExactOnTime", unfollowed := true, recurses := true, apart := false, narrowed := true }
def FnExactOnTimeUptoSaid : Prop := fnExactOnTimeUptoRow.holds Try.pinned (OpenSpec.upto fnExactOnTimeSpec)

end Rows
end Go.Proofs.Ytnkoncplfedffaa
