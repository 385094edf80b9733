/-
  DERIVED. GIVEN WITH THE SEED: THE CARDS: each row of YtapbgmmkkngdoaaDoorRows.lean that lists a variable, with what it lists TIED to the program's text (the seventh form; the later family's looks); each row that meets fmt, with fmt's text TOLD by the authors' own Lean function (tested against real Go, not proved from fmt's source: count such statements apart). THE CARD IS WHAT COUNTS. Prove the row's statement (the work); the ties are given (YtapbgmmkkngdoaaDoorTie.lean); close each card by the builder's one call (the guide's Derived/Test/ToyasCard.lean, 'card_holds'). Laid BY PROGRAM, IN A SANDBOX (cutbox-door.mjs). By AI agents, Wed Nov 11 2026. No macro, syntax, notation, axiom, sorry.
-/
import Derived.Test.YtapbgmmkkngdoaaDoorRows
import GoSem.ClaimSeven
namespace Go.Proofs.YtapbgmmkkngdoaaDoor
namespace Rows

/-- THE TIED CARD OF 'laws.FnExactIsPrecedence'. -/
def fnExactIsPrecedenceCard : Claim7 := { stood := { row := fnExactIsPrecedenceRow, standIns := [], harness := (true, "eb3bde19b182abe68049410ea5402a486c0b323d497ff37c89a3f2d734366931"), looks := false }, kinds := [], alts := [], laidByText := true, laidKinds := [.data, .data], laidTests := true, laidLooks := .later }
def FnExactIsPrecedenceCardSaid : Prop := Claim7.holds Tryd.pinned (.plain (OpenSpec.ofChange fnExactIsPrecedenceSpec)) fnExactIsPrecedenceCard

/-- THE TIED CARD OF 'laws.FnExactPrecedenceClosure'. -/
def fnExactPrecedenceClosureCard : Claim7 := { stood := { row := fnExactPrecedenceClosureRow, standIns := [], harness := (true, "eb3bde19b182abe68049410ea5402a486c0b323d497ff37c89a3f2d734366931"), looks := false }, kinds := [], alts := [], laidByText := true, laidKinds := [.data, .data], laidTests := true, laidLooks := .later }
def FnExactPrecedenceClosureCardSaid : Prop := Claim7.holds Tryd.pinned (.plain (OpenSpec.ofChange fnExactPrecedenceClosureSpec)) fnExactPrecedenceClosureCard

/-- THE TIED CARD OF 'laws.FnExactPrecedenceReduction'. -/
def fnExactPrecedenceReductionCard : Claim7 := { stood := { row := fnExactPrecedenceReductionRow, standIns := [], harness := (true, "eb3bde19b182abe68049410ea5402a486c0b323d497ff37c89a3f2d734366931"), looks := false }, kinds := [], alts := [], laidByText := true, laidKinds := [.data, .data], laidTests := true, laidLooks := .later }
def FnExactPrecedenceReductionCardSaid : Prop := Claim7.holds Tryd.pinned (.plain (OpenSpec.ofChange fnExactPrecedenceReductionSpec)) fnExactPrecedenceReductionCard

/-- THE TIED CARD OF 'laws.FnExactIsExtension'. -/
def fnExactIsExtensionCard : Claim7 := { stood := { row := fnExactIsExtensionRow, standIns := [], harness := (true, "eb3bde19b182abe68049410ea5402a486c0b323d497ff37c89a3f2d734366931"), looks := false }, kinds := [], alts := [], laidByText := true, laidKinds := [.data, .data], laidTests := true, laidLooks := .later }
def FnExactIsExtensionCardSaid : Prop := Claim7.holds Tryd.pinned (.plain (OpenSpec.ofChange fnExactIsExtensionSpec)) fnExactIsExtensionCard

/-- THE TIED CARD OF 'laws.FnExactTailsOf'. -/
def fnExactTailsOfCard : Claim7 := { stood := { row := fnExactTailsOfRow, standIns := [], harness := (true, "eb3bde19b182abe68049410ea5402a486c0b323d497ff37c89a3f2d734366931"), looks := false }, kinds := [], alts := [], laidByText := true, laidKinds := [.data, .data], laidTests := true, laidLooks := .later }
def FnExactTailsOfCardSaid : Prop := Claim7.holds Tryd.pinned (.plain (OpenSpec.ofChange fnExactTailsOfSpec)) fnExactTailsOfCard

/-- THE TIED CARD OF 'laws.FnExactLengthBound'. -/
def fnExactLengthBoundCard : Claim7 := { stood := { row := fnExactLengthBoundRow, standIns := [], harness := (true, "eb3bde19b182abe68049410ea5402a486c0b323d497ff37c89a3f2d734366931"), looks := false }, kinds := [], alts := [], laidByText := true, laidKinds := [.data, .data], laidTests := true, laidLooks := .later }
def FnExactLengthBoundCardSaid : Prop := Claim7.holds Tryd.pinned (.plain (OpenSpec.ofChange fnExactLengthBoundSpec)) fnExactLengthBoundCard

/-- THE TIED CARD OF 'laws.FnExactIsPlan'. -/
def fnExactIsPlanCard : Claim7 := { stood := { row := fnExactIsPlanRow, standIns := [], harness := (true, "eb3bde19b182abe68049410ea5402a486c0b323d497ff37c89a3f2d734366931"), looks := false }, kinds := [], alts := [], laidByText := true, laidKinds := [.data, .data], laidTests := true, laidLooks := .later }
def FnExactIsPlanCardSaid : Prop := Claim7.holds Tryd.pinned (.plain (OpenSpec.ofChange fnExactIsPlanSpec)) fnExactIsPlanCard

/-- THE TIED CARD OF 'laws.FnExactPlanLength'. -/
def fnExactPlanLengthCard : Claim7 := { stood := { row := fnExactPlanLengthRow, standIns := [], harness := (true, "eb3bde19b182abe68049410ea5402a486c0b323d497ff37c89a3f2d734366931"), looks := false }, kinds := [], alts := [], laidByText := true, laidKinds := [.data, .data], laidTests := true, laidLooks := .later }
def FnExactPlanLengthCardSaid : Prop := Claim7.holds Tryd.pinned (.plain (OpenSpec.ofChange fnExactPlanLengthSpec)) fnExactPlanLengthCard

/-- THE SECOND FORM's CARD OF 'laws.FnExactIsPrecedence'. -/
def fnExactIsPrecedenceUptoCard : Claim7 := { stood := { row := fnExactIsPrecedenceUptoRow, standIns := [], harness := (true, "eb3bde19b182abe68049410ea5402a486c0b323d497ff37c89a3f2d734366931"), looks := false }, kinds := [], alts := [], laidByText := true, laidKinds := [.data, .data], laidTests := true, laidLooks := .later }
def FnExactIsPrecedenceUptoCardSaid : Prop := Claim7.holds Tryd.pinned (.plain (OpenSpec.upto fnExactIsPrecedenceSpec)) fnExactIsPrecedenceUptoCard

/-- THE SECOND FORM's CARD OF 'laws.FnExactPrecedenceClosure'. -/
def fnExactPrecedenceClosureUptoCard : Claim7 := { stood := { row := fnExactPrecedenceClosureUptoRow, standIns := [], harness := (true, "eb3bde19b182abe68049410ea5402a486c0b323d497ff37c89a3f2d734366931"), looks := false }, kinds := [], alts := [], laidByText := true, laidKinds := [.data, .data], laidTests := true, laidLooks := .later }
def FnExactPrecedenceClosureUptoCardSaid : Prop := Claim7.holds Tryd.pinned (.plain (OpenSpec.upto fnExactPrecedenceClosureSpec)) fnExactPrecedenceClosureUptoCard

/-- THE SECOND FORM's CARD OF 'laws.FnExactPrecedenceReduction'. -/
def fnExactPrecedenceReductionUptoCard : Claim7 := { stood := { row := fnExactPrecedenceReductionUptoRow, standIns := [], harness := (true, "eb3bde19b182abe68049410ea5402a486c0b323d497ff37c89a3f2d734366931"), looks := false }, kinds := [], alts := [], laidByText := true, laidKinds := [.data, .data], laidTests := true, laidLooks := .later }
def FnExactPrecedenceReductionUptoCardSaid : Prop := Claim7.holds Tryd.pinned (.plain (OpenSpec.upto fnExactPrecedenceReductionSpec)) fnExactPrecedenceReductionUptoCard

/-- THE SECOND FORM's CARD OF 'laws.FnExactIsExtension'. -/
def fnExactIsExtensionUptoCard : Claim7 := { stood := { row := fnExactIsExtensionUptoRow, standIns := [], harness := (true, "eb3bde19b182abe68049410ea5402a486c0b323d497ff37c89a3f2d734366931"), looks := false }, kinds := [], alts := [], laidByText := true, laidKinds := [.data, .data], laidTests := true, laidLooks := .later }
def FnExactIsExtensionUptoCardSaid : Prop := Claim7.holds Tryd.pinned (.plain (OpenSpec.upto fnExactIsExtensionSpec)) fnExactIsExtensionUptoCard

/-- THE SECOND FORM's CARD OF 'laws.FnExactTailsOf'. -/
def fnExactTailsOfUptoCard : Claim7 := { stood := { row := fnExactTailsOfUptoRow, standIns := [], harness := (true, "eb3bde19b182abe68049410ea5402a486c0b323d497ff37c89a3f2d734366931"), looks := false }, kinds := [], alts := [], laidByText := true, laidKinds := [.data, .data], laidTests := true, laidLooks := .later }
def FnExactTailsOfUptoCardSaid : Prop := Claim7.holds Tryd.pinned (.plain (OpenSpec.upto fnExactTailsOfSpec)) fnExactTailsOfUptoCard

/-- THE SECOND FORM's CARD OF 'laws.FnExactLengthBound'. -/
def fnExactLengthBoundUptoCard : Claim7 := { stood := { row := fnExactLengthBoundUptoRow, standIns := [], harness := (true, "eb3bde19b182abe68049410ea5402a486c0b323d497ff37c89a3f2d734366931"), looks := false }, kinds := [], alts := [], laidByText := true, laidKinds := [.data, .data], laidTests := true, laidLooks := .later }
def FnExactLengthBoundUptoCardSaid : Prop := Claim7.holds Tryd.pinned (.plain (OpenSpec.upto fnExactLengthBoundSpec)) fnExactLengthBoundUptoCard

/-- THE SECOND FORM's CARD OF 'laws.FnExactIsPlan'. -/
def fnExactIsPlanUptoCard : Claim7 := { stood := { row := fnExactIsPlanUptoRow, standIns := [], harness := (true, "eb3bde19b182abe68049410ea5402a486c0b323d497ff37c89a3f2d734366931"), looks := false }, kinds := [], alts := [], laidByText := true, laidKinds := [.data, .data], laidTests := true, laidLooks := .later }
def FnExactIsPlanUptoCardSaid : Prop := Claim7.holds Tryd.pinned (.plain (OpenSpec.upto fnExactIsPlanSpec)) fnExactIsPlanUptoCard

/-- THE SECOND FORM's CARD OF 'laws.FnExactPlanLength'. -/
def fnExactPlanLengthUptoCard : Claim7 := { stood := { row := fnExactPlanLengthUptoRow, standIns := [], harness := (true, "eb3bde19b182abe68049410ea5402a486c0b323d497ff37c89a3f2d734366931"), looks := false }, kinds := [], alts := [], laidByText := true, laidKinds := [.data, .data], laidTests := true, laidLooks := .later }
def FnExactPlanLengthUptoCardSaid : Prop := Claim7.holds Tryd.pinned (.plain (OpenSpec.upto fnExactPlanLengthSpec)) fnExactPlanLengthUptoCard
end Rows
end Go.Proofs.YtapbgmmkkngdoaaDoor
