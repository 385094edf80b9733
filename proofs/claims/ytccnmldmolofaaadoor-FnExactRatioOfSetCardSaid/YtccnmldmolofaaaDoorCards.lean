/-
  DERIVED. GIVEN WITH THE SEED: THE CARDS: each row of YtccnmldmolofaaaDoorRows.lean that lists a variable, with what it lists TIED to the program's text (the seventh form; the later family's looks); each row that meets fmt, with fmt's text TOLD by the authors' own Lean function (tested against real Go, not proved from fmt's source: count such statements apart). THE CARD IS WHAT COUNTS. Prove the row's statement (the work); the ties are given (YtccnmldmolofaaaDoorTie.lean); close each card by the builder's one call (the guide's Derived/Test/ToyasCard.lean, 'card_holds'). Laid BY PROGRAM, IN A SANDBOX (cutbox-door.mjs). By AI agents, Wed Nov 11 2026. No macro, syntax, notation, axiom, sorry.
-/
import Derived.Test.YtccnmldmolofaaaDoorRows
import GoSem.ClaimSeven
namespace Go.Proofs.YtccnmldmolofaaaDoor
namespace Rows

/-- THE TIED CARD OF 'laws.FnExactWeightTable'. -/
def fnExactWeightTableCard : Claim7 := { stood := { row := fnExactWeightTableRow, standIns := [], harness := (true, "648609190315c544693749ddc3413d769373e5f290c71a73a96e7cb3db10ff35"), looks := false }, kinds := [], alts := [], laidByText := true, laidKinds := [.data, .data], laidTests := true, laidLooks := .later }
def FnExactWeightTableCardSaid : Prop := Claim7.holds Tryd.pinned (.plain (OpenSpec.ofChange fnExactWeightTableSpec)) fnExactWeightTableCard

/-- THE TIED CARD OF 'laws.FnExactLeastLateWeight'. -/
def fnExactLeastLateWeightCard : Claim7 := { stood := { row := fnExactLeastLateWeightRow, standIns := [], harness := (true, "648609190315c544693749ddc3413d769373e5f290c71a73a96e7cb3db10ff35"), looks := false }, kinds := [], alts := [], laidByText := true, laidKinds := [.data, .data], laidTests := true, laidLooks := .later }
def FnExactLeastLateWeightCardSaid : Prop := Claim7.holds Tryd.pinned (.plain (OpenSpec.ofChange fnExactLeastLateWeightSpec)) fnExactLeastLateWeightCard

/-- THE TIED CARD OF 'laws.FnExactSetValues'. -/
def fnExactSetValuesCard : Claim7 := { stood := { row := fnExactSetValuesRow, standIns := [], harness := (true, "648609190315c544693749ddc3413d769373e5f290c71a73a96e7cb3db10ff35"), looks := false }, kinds := [], alts := [], laidByText := true, laidKinds := [.data, .data], laidTests := true, laidLooks := .later }
def FnExactSetValuesCardSaid : Prop := Claim7.holds Tryd.pinned (.plain (OpenSpec.ofChange fnExactSetValuesSpec)) fnExactSetValuesCard

/-- THE TIED CARD OF 'laws.FnExactSetOrder'. -/
def fnExactSetOrderCard : Claim7 := { stood := { row := fnExactSetOrderRow, standIns := [], harness := (true, "648609190315c544693749ddc3413d769373e5f290c71a73a96e7cb3db10ff35"), looks := false }, kinds := [], alts := [], laidByText := true, laidKinds := [.data, .data], laidTests := true, laidLooks := .later }
def FnExactSetOrderCardSaid : Prop := Claim7.holds Tryd.pinned (.plain (OpenSpec.ofChange fnExactSetOrderSpec)) fnExactSetOrderCard

/-- THE TIED CARD OF 'laws.FnExactLeastTardiness'. -/
def fnExactLeastTardinessCard : Claim7 := { stood := { row := fnExactLeastTardinessRow, standIns := [], harness := (true, "648609190315c544693749ddc3413d769373e5f290c71a73a96e7cb3db10ff35"), looks := false }, kinds := [], alts := [], laidByText := true, laidKinds := [.data, .data], laidTests := true, laidLooks := .later }
def FnExactLeastTardinessCardSaid : Prop := Claim7.holds Tryd.pinned (.plain (OpenSpec.ofChange fnExactLeastTardinessSpec)) fnExactLeastTardinessCard

/-- THE TIED CARD OF 'laws.FnExactRatioOfSet'. -/
def fnExactRatioOfSetCard : Claim7 := { stood := { row := fnExactRatioOfSetRow, standIns := [], harness := (true, "648609190315c544693749ddc3413d769373e5f290c71a73a96e7cb3db10ff35"), looks := false }, kinds := [], alts := [], laidByText := true, laidKinds := [.data, .data], laidTests := true, laidLooks := .later }
def FnExactRatioOfSetCardSaid : Prop := Claim7.holds Tryd.pinned (.plain (OpenSpec.ofChange fnExactRatioOfSetSpec)) fnExactRatioOfSetCard

/-- THE SECOND FORM's CARD OF 'laws.FnExactWeightTable'. -/
def fnExactWeightTableUptoCard : Claim7 := { stood := { row := fnExactWeightTableUptoRow, standIns := [], harness := (true, "648609190315c544693749ddc3413d769373e5f290c71a73a96e7cb3db10ff35"), looks := false }, kinds := [], alts := [], laidByText := true, laidKinds := [.data, .data], laidTests := true, laidLooks := .later }
def FnExactWeightTableUptoCardSaid : Prop := Claim7.holds Tryd.pinned (.plain (OpenSpec.upto fnExactWeightTableSpec)) fnExactWeightTableUptoCard

/-- THE SECOND FORM's CARD OF 'laws.FnExactLeastLateWeight'. -/
def fnExactLeastLateWeightUptoCard : Claim7 := { stood := { row := fnExactLeastLateWeightUptoRow, standIns := [], harness := (true, "648609190315c544693749ddc3413d769373e5f290c71a73a96e7cb3db10ff35"), looks := false }, kinds := [], alts := [], laidByText := true, laidKinds := [.data, .data], laidTests := true, laidLooks := .later }
def FnExactLeastLateWeightUptoCardSaid : Prop := Claim7.holds Tryd.pinned (.plain (OpenSpec.upto fnExactLeastLateWeightSpec)) fnExactLeastLateWeightUptoCard

/-- THE SECOND FORM's CARD OF 'laws.FnExactSetValues'. -/
def fnExactSetValuesUptoCard : Claim7 := { stood := { row := fnExactSetValuesUptoRow, standIns := [], harness := (true, "648609190315c544693749ddc3413d769373e5f290c71a73a96e7cb3db10ff35"), looks := false }, kinds := [], alts := [], laidByText := true, laidKinds := [.data, .data], laidTests := true, laidLooks := .later }
def FnExactSetValuesUptoCardSaid : Prop := Claim7.holds Tryd.pinned (.plain (OpenSpec.upto fnExactSetValuesSpec)) fnExactSetValuesUptoCard

/-- THE SECOND FORM's CARD OF 'laws.FnExactSetOrder'. -/
def fnExactSetOrderUptoCard : Claim7 := { stood := { row := fnExactSetOrderUptoRow, standIns := [], harness := (true, "648609190315c544693749ddc3413d769373e5f290c71a73a96e7cb3db10ff35"), looks := false }, kinds := [], alts := [], laidByText := true, laidKinds := [.data, .data], laidTests := true, laidLooks := .later }
def FnExactSetOrderUptoCardSaid : Prop := Claim7.holds Tryd.pinned (.plain (OpenSpec.upto fnExactSetOrderSpec)) fnExactSetOrderUptoCard

/-- THE SECOND FORM's CARD OF 'laws.FnExactLeastTardiness'. -/
def fnExactLeastTardinessUptoCard : Claim7 := { stood := { row := fnExactLeastTardinessUptoRow, standIns := [], harness := (true, "648609190315c544693749ddc3413d769373e5f290c71a73a96e7cb3db10ff35"), looks := false }, kinds := [], alts := [], laidByText := true, laidKinds := [.data, .data], laidTests := true, laidLooks := .later }
def FnExactLeastTardinessUptoCardSaid : Prop := Claim7.holds Tryd.pinned (.plain (OpenSpec.upto fnExactLeastTardinessSpec)) fnExactLeastTardinessUptoCard

/-- THE SECOND FORM's CARD OF 'laws.FnExactRatioOfSet'. -/
def fnExactRatioOfSetUptoCard : Claim7 := { stood := { row := fnExactRatioOfSetUptoRow, standIns := [], harness := (true, "648609190315c544693749ddc3413d769373e5f290c71a73a96e7cb3db10ff35"), looks := false }, kinds := [], alts := [], laidByText := true, laidKinds := [.data, .data], laidTests := true, laidLooks := .later }
def FnExactRatioOfSetUptoCardSaid : Prop := Claim7.holds Tryd.pinned (.plain (OpenSpec.upto fnExactRatioOfSetSpec)) fnExactRatioOfSetUptoCard
end Rows
end Go.Proofs.YtccnmldmolofaaaDoor
