/-
  DERIVED. GIVEN WITH THE SEED: THE CARDS: each row of YtjemjdlaoebffaaDoorRows.lean that lists a variable, with what it lists TIED to the program's text (the seventh form; the later family's looks); each row that meets fmt, with fmt's text TOLD by the authors' own Lean function (tested against real Go, not proved from fmt's source: count such statements apart). THE CARD IS WHAT COUNTS. Prove the row's statement (the work); the ties are given (YtjemjdlaoebffaaDoorTie.lean); close each card by the builder's one call (the guide's Derived/Test/ToyasCard.lean, 'card_holds'). Laid BY PROGRAM, IN A SANDBOX (cutbox-door.mjs). By AI agents, Wed Nov 11 2026. No macro, syntax, notation, axiom, sorry.
-/
import Derived.Test.YtjemjdlaoebffaaDoorRows
import GoSem.ClaimSeven
namespace Go.Proofs.YtjemjdlaoebffaaDoor
namespace Rows

/-- THE TIED CARD OF 'laws.FnExactUnitSlots'. -/
def fnExactUnitSlotsCard : Claim7 := { stood := { row := fnExactUnitSlotsRow, standIns := [], harness := (true, "ea030ea38b1016efb266740629e14f7247044a2085c44433dc07620f4507f3d1"), looks := false }, kinds := [], alts := [], laidByText := true, laidKinds := [.data, .data], laidTests := true, laidLooks := .later }
def FnExactUnitSlotsCardSaid : Prop := Claim7.holds Tryd.pinned (.plain (OpenSpec.ofChange fnExactUnitSlotsSpec)) fnExactUnitSlotsCard

/-- THE TIED CARD OF 'laws.FnExactLongerWithout'. -/
def fnExactLongerWithoutCard : Claim7 := { stood := { row := fnExactLongerWithoutRow, standIns := [], harness := (true, "ea030ea38b1016efb266740629e14f7247044a2085c44433dc07620f4507f3d1"), looks := false }, kinds := [], alts := [], laidByText := true, laidKinds := [.data, .data], laidTests := true, laidLooks := .later }
def FnExactLongerWithoutCardSaid : Prop := Claim7.holds Tryd.pinned (.plain (OpenSpec.ofChange fnExactLongerWithoutSpec)) fnExactLongerWithoutCard

/-- THE TIED CARD OF 'laws.FnExactLabelPlan'. -/
def fnExactLabelPlanCard : Claim7 := { stood := { row := fnExactLabelPlanRow, standIns := [], harness := (true, "ea030ea38b1016efb266740629e14f7247044a2085c44433dc07620f4507f3d1"), looks := false }, kinds := [], alts := [], laidByText := true, laidKinds := [.data, .data], laidTests := true, laidLooks := .later }
def FnExactLabelPlanCardSaid : Prop := Claim7.holds Tryd.pinned (.plain (OpenSpec.ofChange fnExactLabelPlanSpec)) fnExactLabelPlanCard

/-- THE TIED CARD OF 'laws.FnExactIdleChain'. -/
def fnExactIdleChainCard : Claim7 := { stood := { row := fnExactIdleChainRow, standIns := [], harness := (true, "ea030ea38b1016efb266740629e14f7247044a2085c44433dc07620f4507f3d1"), looks := false }, kinds := [], alts := [], laidByText := true, laidKinds := [.data, .data], laidTests := true, laidLooks := .later }
def FnExactIdleChainCardSaid : Prop := Claim7.holds Tryd.pinned (.plain (OpenSpec.ofChange fnExactIdleChainSpec)) fnExactIdleChainCard

/-- THE TIED CARD OF 'laws.FnExactBackwardOrder'. -/
def fnExactBackwardOrderCard : Claim7 := { stood := { row := fnExactBackwardOrderRow, standIns := [], harness := (true, "ea030ea38b1016efb266740629e14f7247044a2085c44433dc07620f4507f3d1"), looks := false }, kinds := [], alts := [], laidByText := true, laidKinds := [.data, .data], laidTests := true, laidLooks := .later }
def FnExactBackwardOrderCardSaid : Prop := Claim7.holds Tryd.pinned (.plain (OpenSpec.ofChange fnExactBackwardOrderSpec)) fnExactBackwardOrderCard

/-- THE TIED CARD OF 'laws.FnExactYieldOf'. -/
def fnExactYieldOfCard : Claim7 := { stood := { row := fnExactYieldOfRow, standIns := [], harness := (true, "ea030ea38b1016efb266740629e14f7247044a2085c44433dc07620f4507f3d1"), looks := false }, kinds := [], alts := [], laidByText := true, laidKinds := [.data, .data], laidTests := true, laidLooks := .later }
def FnExactYieldOfCardSaid : Prop := Claim7.holds Tryd.pinned (.plain (OpenSpec.ofChange fnExactYieldOfSpec)) fnExactYieldOfCard

/-- THE SECOND FORM's CARD OF 'laws.FnExactUnitSlots'. -/
def fnExactUnitSlotsUptoCard : Claim7 := { stood := { row := fnExactUnitSlotsUptoRow, standIns := [], harness := (true, "ea030ea38b1016efb266740629e14f7247044a2085c44433dc07620f4507f3d1"), looks := false }, kinds := [], alts := [], laidByText := true, laidKinds := [.data, .data], laidTests := true, laidLooks := .later }
def FnExactUnitSlotsUptoCardSaid : Prop := Claim7.holds Tryd.pinned (.plain (OpenSpec.upto fnExactUnitSlotsSpec)) fnExactUnitSlotsUptoCard

/-- THE SECOND FORM's CARD OF 'laws.FnExactLongerWithout'. -/
def fnExactLongerWithoutUptoCard : Claim7 := { stood := { row := fnExactLongerWithoutUptoRow, standIns := [], harness := (true, "ea030ea38b1016efb266740629e14f7247044a2085c44433dc07620f4507f3d1"), looks := false }, kinds := [], alts := [], laidByText := true, laidKinds := [.data, .data], laidTests := true, laidLooks := .later }
def FnExactLongerWithoutUptoCardSaid : Prop := Claim7.holds Tryd.pinned (.plain (OpenSpec.upto fnExactLongerWithoutSpec)) fnExactLongerWithoutUptoCard

/-- THE SECOND FORM's CARD OF 'laws.FnExactLabelPlan'. -/
def fnExactLabelPlanUptoCard : Claim7 := { stood := { row := fnExactLabelPlanUptoRow, standIns := [], harness := (true, "ea030ea38b1016efb266740629e14f7247044a2085c44433dc07620f4507f3d1"), looks := false }, kinds := [], alts := [], laidByText := true, laidKinds := [.data, .data], laidTests := true, laidLooks := .later }
def FnExactLabelPlanUptoCardSaid : Prop := Claim7.holds Tryd.pinned (.plain (OpenSpec.upto fnExactLabelPlanSpec)) fnExactLabelPlanUptoCard

/-- THE SECOND FORM's CARD OF 'laws.FnExactIdleChain'. -/
def fnExactIdleChainUptoCard : Claim7 := { stood := { row := fnExactIdleChainUptoRow, standIns := [], harness := (true, "ea030ea38b1016efb266740629e14f7247044a2085c44433dc07620f4507f3d1"), looks := false }, kinds := [], alts := [], laidByText := true, laidKinds := [.data, .data], laidTests := true, laidLooks := .later }
def FnExactIdleChainUptoCardSaid : Prop := Claim7.holds Tryd.pinned (.plain (OpenSpec.upto fnExactIdleChainSpec)) fnExactIdleChainUptoCard

/-- THE SECOND FORM's CARD OF 'laws.FnExactBackwardOrder'. -/
def fnExactBackwardOrderUptoCard : Claim7 := { stood := { row := fnExactBackwardOrderUptoRow, standIns := [], harness := (true, "ea030ea38b1016efb266740629e14f7247044a2085c44433dc07620f4507f3d1"), looks := false }, kinds := [], alts := [], laidByText := true, laidKinds := [.data, .data], laidTests := true, laidLooks := .later }
def FnExactBackwardOrderUptoCardSaid : Prop := Claim7.holds Tryd.pinned (.plain (OpenSpec.upto fnExactBackwardOrderSpec)) fnExactBackwardOrderUptoCard

/-- THE SECOND FORM's CARD OF 'laws.FnExactYieldOf'. -/
def fnExactYieldOfUptoCard : Claim7 := { stood := { row := fnExactYieldOfUptoRow, standIns := [], harness := (true, "ea030ea38b1016efb266740629e14f7247044a2085c44433dc07620f4507f3d1"), looks := false }, kinds := [], alts := [], laidByText := true, laidKinds := [.data, .data], laidTests := true, laidLooks := .later }
def FnExactYieldOfUptoCardSaid : Prop := Claim7.holds Tryd.pinned (.plain (OpenSpec.upto fnExactYieldOfSpec)) fnExactYieldOfUptoCard
end Rows
end Go.Proofs.YtjemjdlaoebffaaDoor
