/-
  DERIVED. GIVEN WITH THE SEED: THE CARDS: each row of YtpoibjmkbljblaaDoorRows.lean that lists a variable, with what it lists TIED to the program's text (the seventh form; the later family's looks); each row that meets fmt, with fmt's text TOLD by the authors' own Lean function (tested against real Go, not proved from fmt's source: count such statements apart). THE CARD IS WHAT COUNTS. Prove the row's statement (the work); the ties are given (YtpoibjmkbljblaaDoorTie.lean); close each card by the builder's one call (the guide's Derived/Test/ToyasCard.lean, 'card_holds'). Laid BY PROGRAM, IN A SANDBOX (cutbox-door.mjs). By AI agents, Wed Nov 11 2026. No macro, syntax, notation, axiom, sorry.
-/
import Derived.Test.YtpoibjmkbljblaaDoorRows
import GoSem.ClaimSeven
namespace Go.Proofs.YtpoibjmkbljblaaDoor
namespace Rows

/-- THE TIED CARD OF 'laws.FnExactDemandOf'. -/
def fnExactDemandOfCard : Claim7 := { stood := { row := fnExactDemandOfRow, standIns := [], harness := (true, "d15ded928851638dd5203ffbda8bf6015401f10d11329664f901d6dce8b05808"), looks := false }, kinds := [], alts := [], laidByText := true, laidKinds := [.data, .data], laidTests := true, laidLooks := .later }
def FnExactDemandOfCardSaid : Prop := Claim7.holds Tryd.pinned (.plain (OpenSpec.ofChange fnExactDemandOfSpec)) fnExactDemandOfCard

/-- THE TIED CARD OF 'laws.FnExactSupplyOf'. -/
def fnExactSupplyOfCard : Claim7 := { stood := { row := fnExactSupplyOfRow, standIns := [], harness := (true, "d15ded928851638dd5203ffbda8bf6015401f10d11329664f901d6dce8b05808"), looks := false }, kinds := [], alts := [], laidByText := true, laidKinds := [.data, .data], laidTests := true, laidLooks := .later }
def FnExactSupplyOfCardSaid : Prop := Claim7.holds Tryd.pinned (.plain (OpenSpec.ofChange fnExactSupplyOfSpec)) fnExactSupplyOfCard

/-- THE TIED CARD OF 'laws.FnExactShortSet'. -/
def fnExactShortSetCard : Claim7 := { stood := { row := fnExactShortSetRow, standIns := [], harness := (true, "d15ded928851638dd5203ffbda8bf6015401f10d11329664f901d6dce8b05808"), looks := false }, kinds := [], alts := [], laidByText := true, laidKinds := [.data, .data], laidTests := true, laidLooks := .later }
def FnExactShortSetCardSaid : Prop := Claim7.holds Tryd.pinned (.plain (OpenSpec.ofChange fnExactShortSetSpec)) fnExactShortSetCard

/-- THE TIED CARD OF 'laws.FnExactIsBalanced'. -/
def fnExactIsBalancedCard : Claim7 := { stood := { row := fnExactIsBalancedRow, standIns := [], harness := (true, "d15ded928851638dd5203ffbda8bf6015401f10d11329664f901d6dce8b05808"), looks := false }, kinds := [], alts := [], laidByText := true, laidKinds := [.data, .data], laidTests := true, laidLooks := .later }
def FnExactIsBalancedCardSaid : Prop := Claim7.holds Tryd.pinned (.plain (OpenSpec.ofChange fnExactIsBalancedSpec)) fnExactIsBalancedCard

/-- THE TIED CARD OF 'laws.FnExactIsOrderVector'. -/
def fnExactIsOrderVectorCard : Claim7 := { stood := { row := fnExactIsOrderVectorRow, standIns := [], harness := (true, "d15ded928851638dd5203ffbda8bf6015401f10d11329664f901d6dce8b05808"), looks := false }, kinds := [], alts := [], laidByText := true, laidKinds := [.data, .data], laidTests := true, laidLooks := .later }
def FnExactIsOrderVectorCardSaid : Prop := Claim7.holds Tryd.pinned (.plain (OpenSpec.ofChange fnExactIsOrderVectorSpec)) fnExactIsOrderVectorCard

/-- THE TIED CARD OF 'laws.FnExactUnitRank'. -/
def fnExactUnitRankCard : Claim7 := { stood := { row := fnExactUnitRankRow, standIns := [], harness := (true, "d15ded928851638dd5203ffbda8bf6015401f10d11329664f901d6dce8b05808"), looks := false }, kinds := [], alts := [], laidByText := true, laidKinds := [.data, .data], laidTests := true, laidLooks := .later }
def FnExactUnitRankCardSaid : Prop := Claim7.holds Tryd.pinned (.plain (OpenSpec.ofChange fnExactUnitRankSpec)) fnExactUnitRankCard

/-- THE TIED CARD OF 'laws.FnExactUnitGreedy'. -/
def fnExactUnitGreedyCard : Claim7 := { stood := { row := fnExactUnitGreedyRow, standIns := [], harness := (true, "d15ded928851638dd5203ffbda8bf6015401f10d11329664f901d6dce8b05808"), looks := false }, kinds := [], alts := [], laidByText := true, laidKinds := [.data, .data], laidTests := true, laidLooks := .later }
def FnExactUnitGreedyCardSaid : Prop := Claim7.holds Tryd.pinned (.plain (OpenSpec.ofChange fnExactUnitGreedySpec)) fnExactUnitGreedyCard

/-- THE TIED CARD OF 'laws.FnExactUnitCircuit'. -/
def fnExactUnitCircuitCard : Claim7 := { stood := { row := fnExactUnitCircuitRow, standIns := [], harness := (true, "d15ded928851638dd5203ffbda8bf6015401f10d11329664f901d6dce8b05808"), looks := false }, kinds := [], alts := [], laidByText := true, laidKinds := [.data, .data], laidTests := true, laidLooks := .later }
def FnExactUnitCircuitCardSaid : Prop := Claim7.holds Tryd.pinned (.plain (OpenSpec.ofChange fnExactUnitCircuitSpec)) fnExactUnitCircuitCard

/-- THE TIED CARD OF 'laws.FnExactUnitSlots'. -/
def fnExactUnitSlotsCard : Claim7 := { stood := { row := fnExactUnitSlotsRow, standIns := [], harness := (true, "d15ded928851638dd5203ffbda8bf6015401f10d11329664f901d6dce8b05808"), looks := false }, kinds := [], alts := [], laidByText := true, laidKinds := [.data, .data], laidTests := true, laidLooks := .later }
def FnExactUnitSlotsCardSaid : Prop := Claim7.holds Tryd.pinned (.plain (OpenSpec.ofChange fnExactUnitSlotsSpec)) fnExactUnitSlotsCard

/-- THE TIED CARD OF 'laws.FnExactLongerWithout'. -/
def fnExactLongerWithoutCard : Claim7 := { stood := { row := fnExactLongerWithoutRow, standIns := [], harness := (true, "d15ded928851638dd5203ffbda8bf6015401f10d11329664f901d6dce8b05808"), looks := false }, kinds := [], alts := [], laidByText := true, laidKinds := [.data, .data], laidTests := true, laidLooks := .later }
def FnExactLongerWithoutCardSaid : Prop := Claim7.holds Tryd.pinned (.plain (OpenSpec.ofChange fnExactLongerWithoutSpec)) fnExactLongerWithoutCard

/-- THE SECOND FORM's CARD OF 'laws.FnExactDemandOf'. -/
def fnExactDemandOfUptoCard : Claim7 := { stood := { row := fnExactDemandOfUptoRow, standIns := [], harness := (true, "d15ded928851638dd5203ffbda8bf6015401f10d11329664f901d6dce8b05808"), looks := false }, kinds := [], alts := [], laidByText := true, laidKinds := [.data, .data], laidTests := true, laidLooks := .later }
def FnExactDemandOfUptoCardSaid : Prop := Claim7.holds Tryd.pinned (.plain (OpenSpec.upto fnExactDemandOfSpec)) fnExactDemandOfUptoCard

/-- THE SECOND FORM's CARD OF 'laws.FnExactSupplyOf'. -/
def fnExactSupplyOfUptoCard : Claim7 := { stood := { row := fnExactSupplyOfUptoRow, standIns := [], harness := (true, "d15ded928851638dd5203ffbda8bf6015401f10d11329664f901d6dce8b05808"), looks := false }, kinds := [], alts := [], laidByText := true, laidKinds := [.data, .data], laidTests := true, laidLooks := .later }
def FnExactSupplyOfUptoCardSaid : Prop := Claim7.holds Tryd.pinned (.plain (OpenSpec.upto fnExactSupplyOfSpec)) fnExactSupplyOfUptoCard

/-- THE SECOND FORM's CARD OF 'laws.FnExactShortSet'. -/
def fnExactShortSetUptoCard : Claim7 := { stood := { row := fnExactShortSetUptoRow, standIns := [], harness := (true, "d15ded928851638dd5203ffbda8bf6015401f10d11329664f901d6dce8b05808"), looks := false }, kinds := [], alts := [], laidByText := true, laidKinds := [.data, .data], laidTests := true, laidLooks := .later }
def FnExactShortSetUptoCardSaid : Prop := Claim7.holds Tryd.pinned (.plain (OpenSpec.upto fnExactShortSetSpec)) fnExactShortSetUptoCard

/-- THE SECOND FORM's CARD OF 'laws.FnExactIsBalanced'. -/
def fnExactIsBalancedUptoCard : Claim7 := { stood := { row := fnExactIsBalancedUptoRow, standIns := [], harness := (true, "d15ded928851638dd5203ffbda8bf6015401f10d11329664f901d6dce8b05808"), looks := false }, kinds := [], alts := [], laidByText := true, laidKinds := [.data, .data], laidTests := true, laidLooks := .later }
def FnExactIsBalancedUptoCardSaid : Prop := Claim7.holds Tryd.pinned (.plain (OpenSpec.upto fnExactIsBalancedSpec)) fnExactIsBalancedUptoCard

/-- THE SECOND FORM's CARD OF 'laws.FnExactIsOrderVector'. -/
def fnExactIsOrderVectorUptoCard : Claim7 := { stood := { row := fnExactIsOrderVectorUptoRow, standIns := [], harness := (true, "d15ded928851638dd5203ffbda8bf6015401f10d11329664f901d6dce8b05808"), looks := false }, kinds := [], alts := [], laidByText := true, laidKinds := [.data, .data], laidTests := true, laidLooks := .later }
def FnExactIsOrderVectorUptoCardSaid : Prop := Claim7.holds Tryd.pinned (.plain (OpenSpec.upto fnExactIsOrderVectorSpec)) fnExactIsOrderVectorUptoCard

/-- THE SECOND FORM's CARD OF 'laws.FnExactUnitRank'. -/
def fnExactUnitRankUptoCard : Claim7 := { stood := { row := fnExactUnitRankUptoRow, standIns := [], harness := (true, "d15ded928851638dd5203ffbda8bf6015401f10d11329664f901d6dce8b05808"), looks := false }, kinds := [], alts := [], laidByText := true, laidKinds := [.data, .data], laidTests := true, laidLooks := .later }
def FnExactUnitRankUptoCardSaid : Prop := Claim7.holds Tryd.pinned (.plain (OpenSpec.upto fnExactUnitRankSpec)) fnExactUnitRankUptoCard

/-- THE SECOND FORM's CARD OF 'laws.FnExactUnitGreedy'. -/
def fnExactUnitGreedyUptoCard : Claim7 := { stood := { row := fnExactUnitGreedyUptoRow, standIns := [], harness := (true, "d15ded928851638dd5203ffbda8bf6015401f10d11329664f901d6dce8b05808"), looks := false }, kinds := [], alts := [], laidByText := true, laidKinds := [.data, .data], laidTests := true, laidLooks := .later }
def FnExactUnitGreedyUptoCardSaid : Prop := Claim7.holds Tryd.pinned (.plain (OpenSpec.upto fnExactUnitGreedySpec)) fnExactUnitGreedyUptoCard

/-- THE SECOND FORM's CARD OF 'laws.FnExactUnitCircuit'. -/
def fnExactUnitCircuitUptoCard : Claim7 := { stood := { row := fnExactUnitCircuitUptoRow, standIns := [], harness := (true, "d15ded928851638dd5203ffbda8bf6015401f10d11329664f901d6dce8b05808"), looks := false }, kinds := [], alts := [], laidByText := true, laidKinds := [.data, .data], laidTests := true, laidLooks := .later }
def FnExactUnitCircuitUptoCardSaid : Prop := Claim7.holds Tryd.pinned (.plain (OpenSpec.upto fnExactUnitCircuitSpec)) fnExactUnitCircuitUptoCard

/-- THE SECOND FORM's CARD OF 'laws.FnExactUnitSlots'. -/
def fnExactUnitSlotsUptoCard : Claim7 := { stood := { row := fnExactUnitSlotsUptoRow, standIns := [], harness := (true, "d15ded928851638dd5203ffbda8bf6015401f10d11329664f901d6dce8b05808"), looks := false }, kinds := [], alts := [], laidByText := true, laidKinds := [.data, .data], laidTests := true, laidLooks := .later }
def FnExactUnitSlotsUptoCardSaid : Prop := Claim7.holds Tryd.pinned (.plain (OpenSpec.upto fnExactUnitSlotsSpec)) fnExactUnitSlotsUptoCard

/-- THE SECOND FORM's CARD OF 'laws.FnExactLongerWithout'. -/
def fnExactLongerWithoutUptoCard : Claim7 := { stood := { row := fnExactLongerWithoutUptoRow, standIns := [], harness := (true, "d15ded928851638dd5203ffbda8bf6015401f10d11329664f901d6dce8b05808"), looks := false }, kinds := [], alts := [], laidByText := true, laidKinds := [.data, .data], laidTests := true, laidLooks := .later }
def FnExactLongerWithoutUptoCardSaid : Prop := Claim7.holds Tryd.pinned (.plain (OpenSpec.upto fnExactLongerWithoutSpec)) fnExactLongerWithoutUptoCard
end Rows
end Go.Proofs.YtpoibjmkbljblaaDoor
