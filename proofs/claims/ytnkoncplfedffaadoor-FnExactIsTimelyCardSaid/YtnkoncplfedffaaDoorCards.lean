/-
  DERIVED. GIVEN WITH THE SEED: THE CARDS: each row of YtnkoncplfedffaaDoorRows.lean that lists a variable, with what it lists TIED to the program's text (the seventh form; the later family's looks); each row that meets fmt, with fmt's text TOLD by the authors' own Lean function (tested against real Go, not proved from fmt's source: count such statements apart). THE CARD IS WHAT COUNTS. Prove the row's statement (the work); the ties are given (YtnkoncplfedffaaDoorTie.lean); close each card by the builder's one call (the guide's Derived/Test/ToyasCard.lean, 'card_holds'). Laid BY PROGRAM, IN A SANDBOX (cutbox-door.mjs). By AI agents, Wed Nov 11 2026. No macro, syntax, notation, axiom, sorry.
-/
import Derived.Test.YtnkoncplfedffaaDoorRows
import GoSem.ClaimSeven
namespace Go.Proofs.YtnkoncplfedffaaDoor
namespace Rows

/-- THE TIED CARD OF 'laws.FnExactTotalTime'. -/
def fnExactTotalTimeCard : Claim7 := { stood := { row := fnExactTotalTimeRow, standIns := [], harness := (true, "2a168b37d5bca5a5e51885a7a55b5cc693916413aafdbb7dd6922be68e9d0968"), looks := false }, kinds := [], alts := [], laidByText := true, laidKinds := [.data, .data], laidTests := true, laidLooks := .later }
def FnExactTotalTimeCardSaid : Prop := Claim7.holds Tryd.pinned (.plain (OpenSpec.ofChange fnExactTotalTimeSpec)) fnExactTotalTimeCard

/-- THE TIED CARD OF 'laws.FnExactDueOrder'. -/
def fnExactDueOrderCard : Claim7 := { stood := { row := fnExactDueOrderRow, standIns := [], harness := (true, "2a168b37d5bca5a5e51885a7a55b5cc693916413aafdbb7dd6922be68e9d0968"), looks := false }, kinds := [], alts := [], laidByText := true, laidKinds := [.data, .data], laidTests := true, laidLooks := .later }
def FnExactDueOrderCardSaid : Prop := Claim7.holds Tryd.pinned (.plain (OpenSpec.ofChange fnExactDueOrderSpec)) fnExactDueOrderCard

/-- THE TIED CARD OF 'laws.FnExactIsTimely'. -/
def fnExactIsTimelyCard : Claim7 := { stood := { row := fnExactIsTimelyRow, standIns := [], harness := (true, "2a168b37d5bca5a5e51885a7a55b5cc693916413aafdbb7dd6922be68e9d0968"), looks := false }, kinds := [], alts := [], laidByText := true, laidKinds := [.data, .data], laidTests := true, laidLooks := .later }
def FnExactIsTimelyCardSaid : Prop := Claim7.holds Tryd.pinned (.plain (OpenSpec.ofChange fnExactIsTimelySpec)) fnExactIsTimelyCard

/-- THE TIED CARD OF 'laws.FnExactEarliestLatest'. -/
def fnExactEarliestLatestCard : Claim7 := { stood := { row := fnExactEarliestLatestRow, standIns := [], harness := (true, "2a168b37d5bca5a5e51885a7a55b5cc693916413aafdbb7dd6922be68e9d0968"), looks := false }, kinds := [], alts := [], laidByText := true, laidKinds := [.data, .data], laidTests := true, laidLooks := .later }
def FnExactEarliestLatestCardSaid : Prop := Claim7.holds Tryd.pinned (.plain (OpenSpec.ofChange fnExactEarliestLatestSpec)) fnExactEarliestLatestCard

/-- THE TIED CARD OF 'laws.FnExactTimelyAfter'. -/
def fnExactTimelyAfterCard : Claim7 := { stood := { row := fnExactTimelyAfterRow, standIns := [], harness := (true, "2a168b37d5bca5a5e51885a7a55b5cc693916413aafdbb7dd6922be68e9d0968"), looks := false }, kinds := [], alts := [], laidByText := true, laidKinds := [.data, .data], laidTests := true, laidLooks := .later }
def FnExactTimelyAfterCardSaid : Prop := Claim7.holds Tryd.pinned (.plain (OpenSpec.ofChange fnExactTimelyAfterSpec)) fnExactTimelyAfterCard

/-- THE TIED CARD OF 'laws.FnExactIsPrecedence'. -/
def fnExactIsPrecedenceCard : Claim7 := { stood := { row := fnExactIsPrecedenceRow, standIns := [], harness := (true, "2a168b37d5bca5a5e51885a7a55b5cc693916413aafdbb7dd6922be68e9d0968"), looks := false }, kinds := [], alts := [], laidByText := true, laidKinds := [.data, .data], laidTests := true, laidLooks := .later }
def FnExactIsPrecedenceCardSaid : Prop := Claim7.holds Tryd.pinned (.plain (OpenSpec.ofChange fnExactIsPrecedenceSpec)) fnExactIsPrecedenceCard

/-- THE SECOND FORM's CARD OF 'laws.FnExactTotalTime'. -/
def fnExactTotalTimeUptoCard : Claim7 := { stood := { row := fnExactTotalTimeUptoRow, standIns := [], harness := (true, "2a168b37d5bca5a5e51885a7a55b5cc693916413aafdbb7dd6922be68e9d0968"), looks := false }, kinds := [], alts := [], laidByText := true, laidKinds := [.data, .data], laidTests := true, laidLooks := .later }
def FnExactTotalTimeUptoCardSaid : Prop := Claim7.holds Tryd.pinned (.plain (OpenSpec.upto fnExactTotalTimeSpec)) fnExactTotalTimeUptoCard

/-- THE SECOND FORM's CARD OF 'laws.FnExactDueOrder'. -/
def fnExactDueOrderUptoCard : Claim7 := { stood := { row := fnExactDueOrderUptoRow, standIns := [], harness := (true, "2a168b37d5bca5a5e51885a7a55b5cc693916413aafdbb7dd6922be68e9d0968"), looks := false }, kinds := [], alts := [], laidByText := true, laidKinds := [.data, .data], laidTests := true, laidLooks := .later }
def FnExactDueOrderUptoCardSaid : Prop := Claim7.holds Tryd.pinned (.plain (OpenSpec.upto fnExactDueOrderSpec)) fnExactDueOrderUptoCard

/-- THE SECOND FORM's CARD OF 'laws.FnExactIsTimely'. -/
def fnExactIsTimelyUptoCard : Claim7 := { stood := { row := fnExactIsTimelyUptoRow, standIns := [], harness := (true, "2a168b37d5bca5a5e51885a7a55b5cc693916413aafdbb7dd6922be68e9d0968"), looks := false }, kinds := [], alts := [], laidByText := true, laidKinds := [.data, .data], laidTests := true, laidLooks := .later }
def FnExactIsTimelyUptoCardSaid : Prop := Claim7.holds Tryd.pinned (.plain (OpenSpec.upto fnExactIsTimelySpec)) fnExactIsTimelyUptoCard

/-- THE SECOND FORM's CARD OF 'laws.FnExactEarliestLatest'. -/
def fnExactEarliestLatestUptoCard : Claim7 := { stood := { row := fnExactEarliestLatestUptoRow, standIns := [], harness := (true, "2a168b37d5bca5a5e51885a7a55b5cc693916413aafdbb7dd6922be68e9d0968"), looks := false }, kinds := [], alts := [], laidByText := true, laidKinds := [.data, .data], laidTests := true, laidLooks := .later }
def FnExactEarliestLatestUptoCardSaid : Prop := Claim7.holds Tryd.pinned (.plain (OpenSpec.upto fnExactEarliestLatestSpec)) fnExactEarliestLatestUptoCard

/-- THE SECOND FORM's CARD OF 'laws.FnExactTimelyAfter'. -/
def fnExactTimelyAfterUptoCard : Claim7 := { stood := { row := fnExactTimelyAfterUptoRow, standIns := [], harness := (true, "2a168b37d5bca5a5e51885a7a55b5cc693916413aafdbb7dd6922be68e9d0968"), looks := false }, kinds := [], alts := [], laidByText := true, laidKinds := [.data, .data], laidTests := true, laidLooks := .later }
def FnExactTimelyAfterUptoCardSaid : Prop := Claim7.holds Tryd.pinned (.plain (OpenSpec.upto fnExactTimelyAfterSpec)) fnExactTimelyAfterUptoCard

/-- THE SECOND FORM's CARD OF 'laws.FnExactIsPrecedence'. -/
def fnExactIsPrecedenceUptoCard : Claim7 := { stood := { row := fnExactIsPrecedenceUptoRow, standIns := [], harness := (true, "2a168b37d5bca5a5e51885a7a55b5cc693916413aafdbb7dd6922be68e9d0968"), looks := false }, kinds := [], alts := [], laidByText := true, laidKinds := [.data, .data], laidTests := true, laidLooks := .later }
def FnExactIsPrecedenceUptoCardSaid : Prop := Claim7.holds Tryd.pinned (.plain (OpenSpec.upto fnExactIsPrecedenceSpec)) fnExactIsPrecedenceUptoCard
end Rows
end Go.Proofs.YtnkoncplfedffaaDoor
