/-
  No cell of these rows narrows 'for every input' (looked for: loops, veiled, ifaces, maps, wideKeys, modest, calm, conditions, laid).
  DERIVED. THE GIVEN ROWS OF THIS SEAT. 7 by the template 'for every input the law returns true; each argument reads behind the call as it read before'; 0 by the template 'total and deterministic' (their statements: YtjemjdlaoebffaaTotals.lean).
  GIVEN WITH THE SEED: the statements are not yours to turn. If you find one false, say at which input.
  Laid BY PROGRAM, IN A SANDBOX (cutbox-rows.mjs): the forced cells as the released guide's own fill.sh prints them over the translation 1cc0ce2f922b17a1… (all of the seat's roots in one cut). By AI agents, Wed Nov 11 2026. No macro, syntax, notation, axiom, sorry.
-/
import Derived.Test.YtjemjdlaoebffaaChecked
import GoSem.Claim
import GoSem.ClaimJoined
import GoSem.ClaimMapViews
import Derived.JoinedTies
import Derived.KernelRfl
namespace Go.Proofs.Ytjemjdlaoebffaa
/- THE CELL 'sum', in the pinned program and in every row, IS THE sha256 OF THE DUMP (.gsa) THAT YtjemjdlaoebffaaProg.lean LOADS. Nothing in Lean hashes anything: it is a label: what it is worth is what the hold of that sum in a sandbox is worth. -/
noncomputable def Try.pinned : Pinned := { name := "ytjemjdlaoebffaa", sum := "1cc0ce2f922b17a19b47137999a46d225f74bc1339c1020c27131f93b2017d7d", checked := Try.checked }
namespace Rows
def none {H : Type} : Left H := { results := [], args := [] }

/-- 'laws.FnExactIsJobShop': WHATEVER THE INPUT: true; the input reads as it did. -/
def fnExactIsJobShopSpec : ChangeSpec := { name := "fnExactIsJobShop", fn := fun _ => fun
  | [d] => { results := [.lit (.bool true)], args := [d] }
  | _ => none }
def fnExactIsJobShopRow : OpenClaim := { program := "ytjemjdlaoebffaa", sum := "1cc0ce2f922b17a19b47137999a46d225f74bc1339c1020c27131f93b2017d7d", func := "loop.example/g01103/laws.FnExactIsJobShop", spec := "fnExactIsJobShop", unfollowed := true, recurses := true, apart := false }
def FnExactIsJobShopSaid : Prop := fnExactIsJobShopRow.holds Try.pinned (OpenSpec.ofChange fnExactIsJobShopSpec)

/-- ITS FALSE NEIGHBOUR: 'it returns false'. Refute it at one input. -/
def fnExactIsJobShopWrong : ChangeSpec := { name := "fnExactIsJobShop", fn := fun _ => fun
  | [d] => { results := [.lit (.bool false)], args := [d] }
  | _ => none }
def FnExactIsJobShopWrongFalsely : Prop := fnExactIsJobShopRow.holds Try.pinned (OpenSpec.ofChange fnExactIsJobShopWrong)

/-- 'laws.FnExactOpsOf': WHATEVER THE INPUT: true; the input reads as it did. -/
def fnExactOpsOfSpec : ChangeSpec := { name := "fnExactOpsOf", fn := fun _ => fun
  | [d] => { results := [.lit (.bool true)], args := [d] }
  | _ => none }
def fnExactOpsOfRow : OpenClaim := { program := "ytjemjdlaoebffaa", sum := "1cc0ce2f922b17a19b47137999a46d225f74bc1339c1020c27131f93b2017d7d", func := "loop.example/g01103/laws.FnExactOpsOf", spec := "fnExactOpsOf", unfollowed := true, recurses := true, apart := false }
def FnExactOpsOfSaid : Prop := fnExactOpsOfRow.holds Try.pinned (OpenSpec.ofChange fnExactOpsOfSpec)

/-- ITS FALSE NEIGHBOUR: 'it returns false'. Refute it at one input. -/
def fnExactOpsOfWrong : ChangeSpec := { name := "fnExactOpsOf", fn := fun _ => fun
  | [d] => { results := [.lit (.bool false)], args := [d] }
  | _ => none }
def FnExactOpsOfWrongFalsely : Prop := fnExactOpsOfRow.holds Try.pinned (OpenSpec.ofChange fnExactOpsOfWrong)

/-- 'laws.FnExactOpsOn': WHATEVER THE INPUT: true; the input reads as it did. -/
def fnExactOpsOnSpec : ChangeSpec := { name := "fnExactOpsOn", fn := fun _ => fun
  | [d1, d2] => { results := [.lit (.bool true)], args := [d1, d2] }
  | _ => none }
def fnExactOpsOnRow : OpenClaim := { program := "ytjemjdlaoebffaa", sum := "1cc0ce2f922b17a19b47137999a46d225f74bc1339c1020c27131f93b2017d7d", func := "loop.example/g01103/laws.FnExactOpsOn", spec := "fnExactOpsOn", unfollowed := true, recurses := true, apart := false }
def FnExactOpsOnSaid : Prop := fnExactOpsOnRow.holds Try.pinned (OpenSpec.ofChange fnExactOpsOnSpec)

/-- ITS FALSE NEIGHBOUR: 'it returns false'. Refute it at one input. -/
def fnExactOpsOnWrong : ChangeSpec := { name := "fnExactOpsOn", fn := fun _ => fun
  | [d1, d2] => { results := [.lit (.bool false)], args := [d1, d2] }
  | _ => none }
def FnExactOpsOnWrongFalsely : Prop := fnExactOpsOnRow.holds Try.pinned (OpenSpec.ofChange fnExactOpsOnWrong)

/-- 'laws.FnExactPointOf': WHATEVER THE INPUT: true; the input reads as it did. -/
def fnExactPointOfSpec : ChangeSpec := { name := "fnExactPointOf", fn := fun _ => fun
  | [d1, d2, d3, d4] => { results := [.lit (.bool true)], args := [d1, d2, d3, d4] }
  | _ => none }
def fnExactPointOfRow : OpenClaim := { program := "ytjemjdlaoebffaa", sum := "1cc0ce2f922b17a19b47137999a46d225f74bc1339c1020c27131f93b2017d7d", func := "loop.example/g01103/laws.FnExactPointOf", spec := "fnExactPointOf", unfollowed := true, recurses := true, apart := false }
def FnExactPointOfSaid : Prop := fnExactPointOfRow.holds Try.pinned (OpenSpec.ofChange fnExactPointOfSpec)

/-- ITS FALSE NEIGHBOUR: 'it returns false'. Refute it at one input. -/
def fnExactPointOfWrong : ChangeSpec := { name := "fnExactPointOf", fn := fun _ => fun
  | [d1, d2, d3, d4] => { results := [.lit (.bool false)], args := [d1, d2, d3, d4] }
  | _ => none }
def FnExactPointOfWrongFalsely : Prop := fnExactPointOfRow.holds Try.pinned (OpenSpec.ofChange fnExactPointOfWrong)

/-- 'laws.FnExactAreScenarios': WHATEVER THE INPUT: true; the input reads as it did. -/
def fnExactAreScenariosSpec : ChangeSpec := { name := "fnExactAreScenarios", fn := fun _ => fun
  | [d] => { results := [.lit (.bool true)], args := [d] }
  | _ => none }
def fnExactAreScenariosRow : OpenClaim := { program := "ytjemjdlaoebffaa", sum := "1cc0ce2f922b17a19b47137999a46d225f74bc1339c1020c27131f93b2017d7d", func := "loop.example/g01103/laws.FnExactAreScenarios", spec := "fnExactAreScenarios", unfollowed := true, recurses := true, apart := false }
def FnExactAreScenariosSaid : Prop := fnExactAreScenariosRow.holds Try.pinned (OpenSpec.ofChange fnExactAreScenariosSpec)

/-- ITS FALSE NEIGHBOUR: 'it returns false'. Refute it at one input. -/
def fnExactAreScenariosWrong : ChangeSpec := { name := "fnExactAreScenarios", fn := fun _ => fun
  | [d] => { results := [.lit (.bool false)], args := [d] }
  | _ => none }
def FnExactAreScenariosWrongFalsely : Prop := fnExactAreScenariosRow.holds Try.pinned (OpenSpec.ofChange fnExactAreScenariosWrong)

/-- 'laws.FnExactScenarioValues': WHATEVER THE INPUT: true; the input reads as it did. -/
def fnExactScenarioValuesSpec : ChangeSpec := { name := "fnExactScenarioValues", fn := fun _ => fun
  | [d1, d2, d3] => { results := [.lit (.bool true)], args := [d1, d2, d3] }
  | _ => none }
def fnExactScenarioValuesRow : OpenClaim := { program := "ytjemjdlaoebffaa", sum := "1cc0ce2f922b17a19b47137999a46d225f74bc1339c1020c27131f93b2017d7d", func := "loop.example/g01103/laws.FnExactScenarioValues", spec := "fnExactScenarioValues", unfollowed := true, recurses := true, apart := false }
def FnExactScenarioValuesSaid : Prop := fnExactScenarioValuesRow.holds Try.pinned (OpenSpec.ofChange fnExactScenarioValuesSpec)

/-- ITS FALSE NEIGHBOUR: 'it returns false'. Refute it at one input. -/
def fnExactScenarioValuesWrong : ChangeSpec := { name := "fnExactScenarioValues", fn := fun _ => fun
  | [d1, d2, d3] => { results := [.lit (.bool false)], args := [d1, d2, d3] }
  | _ => none }
def FnExactScenarioValuesWrongFalsely : Prop := fnExactScenarioValuesRow.holds Try.pinned (OpenSpec.ofChange fnExactScenarioValuesWrong)

/-- 'laws.FnExactIsFair': WHATEVER THE INPUT: true; the input reads as it did. -/
def fnExactIsFairSpec : ChangeSpec := { name := "fnExactIsFair", fn := fun _ => fun
  | [d1, d2, d3] => { results := [.lit (.bool true)], args := [d1, d2, d3] }
  | _ => none }
def fnExactIsFairRow : OpenClaim := { program := "ytjemjdlaoebffaa", sum := "1cc0ce2f922b17a19b47137999a46d225f74bc1339c1020c27131f93b2017d7d", func := "loop.example/g01103/laws.FnExactIsFair", spec := "fnExactIsFair", unfollowed := true, recurses := true, apart := false }
def FnExactIsFairSaid : Prop := fnExactIsFairRow.holds Try.pinned (OpenSpec.ofChange fnExactIsFairSpec)

/-- ITS FALSE NEIGHBOUR: 'it returns false'. Refute it at one input. -/
def fnExactIsFairWrong : ChangeSpec := { name := "fnExactIsFair", fn := fun _ => fun
  | [d1, d2, d3] => { results := [.lit (.bool false)], args := [d1, d2, d3] }
  | _ => none }
def FnExactIsFairWrongFalsely : Prop := fnExactIsFairRow.holds Try.pinned (OpenSpec.ofChange fnExactIsFairWrong)

/- THE SECOND FORM. 'bulk': how many values and letters a reading holds, each counted each time it is reached (what is shared counts as often as it is met; a slice's spare places count too). A statement '..UptoSaid' is the law's where the arguments, and the package variables that the reading takes, are together of bulk at most 1048576: NARROWER than '..Said'. Prove '..Said' where nothing that the law and all that it calls make is longer than what came in: it says more and counts as full. Else prove '..UptoSaid'. A law counts once. -/
mutual
def uptoBulk {H : Type} : DataW H → Nat
  | .lit (.string bytes) => bytes.length + 1
  | .lit _ => 1
  | .nil => 1
  | .ptr d => uptoBulk d + 1
  | .slice elems spare => uptoBulkAll elems + uptoBulkAll spare + 1
  | .agg parts => uptoBulkAll parts + 1
  | .iface _ d => uptoBulk d + 1
  | .map entries => uptoBulkEntries entries + 1
  | .held _ => 1
def uptoBulkAll {H : Type} : List (DataW H) → Nat
  | [] => 0
  | d :: r => uptoBulk d + uptoBulkAll r
def uptoBulkEntries {H : Type} : List (Lit × DataW H) → Nat
  | [] => 0
  | x :: r => uptoBulkEntry x + uptoBulkEntries r
def uptoBulkEntry {H : Type} : Lit × DataW H → Nat
  | (.string bytes, d) => bytes.length + uptoBulk d + 1
  | (_, d) => uptoBulk d + 1
 end
def uptoSmall : (H : Type) → List (DataW H) → Bool := fun _ ds => decide (uptoBulkAll ds ≤ 1048576)
def OpenSpec.upto (s : _root_.Go.ChangeSpec) : _root_.Go.OpenSpec := { _root_.Go.OpenSpec.ofChange s with cond := some uptoSmall }

/-- 'laws.FnExactIsJobShop', WHERE WHAT IT READS IS OF BULK AT MOST 1048576: true; the input reads as it did. -/
def fnExactIsJobShopUptoRow : OpenClaim := { program := "ytjemjdlaoebffaa", sum := "1cc0ce2f922b17a19b47137999a46d225f74bc1339c1020c27131f93b2017d7d", func := "loop.example/g01103/laws.FnExactIsJobShop", spec := "fnExactIsJobShop", unfollowed := true, recurses := true, apart := false, narrowed := true }
def FnExactIsJobShopUptoSaid : Prop := fnExactIsJobShopUptoRow.holds Try.pinned (OpenSpec.upto fnExactIsJobShopSpec)

/-- 'laws.FnExactOpsOf', WHERE WHAT IT READS IS OF BULK AT MOST 1048576: true; the input reads as it did. -/
def fnExactOpsOfUptoRow : OpenClaim := { program := "ytjemjdlaoebffaa", sum := "1cc0ce2f922b17a19b47137999a46d225f74bc1339c1020c27131f93b2017d7d", func := "loop.example/g01103/laws.FnExactOpsOf", spec := "fnExactOpsOf", unfollowed := true, recurses := true, apart := false, narrowed := true }
def FnExactOpsOfUptoSaid : Prop := fnExactOpsOfUptoRow.holds Try.pinned (OpenSpec.upto fnExactOpsOfSpec)

/-- 'laws.FnExactOpsOn', WHERE WHAT IT READS IS OF BULK AT MOST 1048576: true; the input reads as it did. -/
def fnExactOpsOnUptoRow : OpenClaim := { program := "ytjemjdlaoebffaa", sum := "1cc0ce2f922b17a19b47137999a46d225f74bc1339c1020c27131f93b2017d7d", func := "loop.example/g01103/laws.FnExactOpsOn", spec := "fnExactOpsOn", unfollowed := true, recurses := true, apart := false, narrowed := true }
def FnExactOpsOnUptoSaid : Prop := fnExactOpsOnUptoRow.holds Try.pinned (OpenSpec.upto fnExactOpsOnSpec)

/-- 'laws.FnExactPointOf', WHERE WHAT IT READS IS OF BULK AT MOST 1048576: true; the input reads as it did. -/
def fnExactPointOfUptoRow : OpenClaim := { program := "ytjemjdlaoebffaa", sum := "1cc0ce2f922b17a19b47137999a46d225f74bc1339c1020c27131f93b2017d7d", func := "loop.example/g01103/laws.FnExactPointOf", spec := "fnExactPointOf", unfollowed := true, recurses := true, apart := false, narrowed := true }
def FnExactPointOfUptoSaid : Prop := fnExactPointOfUptoRow.holds Try.pinned (OpenSpec.upto fnExactPointOfSpec)

/-- 'laws.FnExactAreScenarios', WHERE WHAT IT READS IS OF BULK AT MOST 1048576: true; the input reads as it did. -/
def fnExactAreScenariosUptoRow : OpenClaim := { program := "ytjemjdlaoebffaa", sum := "1cc0ce2f922b17a19b47137999a46d225f74bc1339c1020c27131f93b2017d7d", func := "loop.example/g01103/laws.FnExactAreScenarios", spec := "fnExactAreScenarios", unfollowed := true, recurses := true, apart := false, narrowed := true }
def FnExactAreScenariosUptoSaid : Prop := fnExactAreScenariosUptoRow.holds Try.pinned (OpenSpec.upto fnExactAreScenariosSpec)

/-- 'laws.FnExactScenarioValues', WHERE WHAT IT READS IS OF BULK AT MOST 1048576: true; the input reads as it did. -/
def fnExactScenarioValuesUptoRow : OpenClaim := { program := "ytjemjdlaoebffaa", sum := "1cc0ce2f922b17a19b47137999a46d225f74bc1339c1020c27131f93b2017d7d", func := "loop.example/g01103/laws.FnExactScenarioValues", spec := "fnExactScenarioValues", unfollowed := true, recurses := true, apart := false, narrowed := true }
def FnExactScenarioValuesUptoSaid : Prop := fnExactScenarioValuesUptoRow.holds Try.pinned (OpenSpec.upto fnExactScenarioValuesSpec)

/-- 'laws.FnExactIsFair', WHERE WHAT IT READS IS OF BULK AT MOST 1048576: true; the input reads as it did. -/
def fnExactIsFairUptoRow : OpenClaim := { program := "ytjemjdlaoebffaa", sum := "1cc0ce2f922b17a19b47137999a46d225f74bc1339c1020c27131f93b2017d7d", func := "loop.example/g01103/laws.FnExactIsFair", spec := "fnExactIsFair", unfollowed := true, recurses := true, apart := false, narrowed := true }
def FnExactIsFairUptoSaid : Prop := fnExactIsFairUptoRow.holds Try.pinned (OpenSpec.upto fnExactIsFairSpec)

end Rows
end Go.Proofs.Ytjemjdlaoebffaa
