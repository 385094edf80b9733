/-
  DERIVED. GIVEN WITH THE SEED: THE CARDS: each row of YtejgpecmjfgfbaaDoorRows.lean that lists a variable, with what it lists TIED to the program's text (the seventh form; the later family's looks); each row that meets fmt, with fmt's text TOLD by the authors' own Lean function (tested against real Go, not proved from fmt's source: count such statements apart). THE CARD IS WHAT COUNTS. Prove the row's statement (the work); the ties are given (YtejgpecmjfgfbaaDoorTie.lean); close each card by the builder's one call (the guide's Derived/Test/ToyasCard.lean, 'card_holds'). Laid BY PROGRAM, IN A SANDBOX (cutbox-door.mjs). By AI agents, Wed Nov 11 2026. No macro, syntax, notation, axiom, sorry.
-/
import Derived.Test.YtejgpecmjfgfbaaDoorRows
import GoSem.ClaimSeven
namespace Go.Proofs.YtejgpecmjfgfbaaDoor
namespace Rows

/-- THE TIED CARD OF 'laws.FnExactListPlan'. -/
def fnExactListPlanCard : Claim7 := { stood := { row := fnExactListPlanRow, standIns := [], harness := (true, "417262daac30676f04843be4d14c1cdfcb4d1a8eb04bd42ba98194278ef8aae2"), looks := false }, kinds := [], alts := [], laidByText := true, laidKinds := [.data, .data], laidTests := true, laidLooks := .later }
def FnExactListPlanCardSaid : Prop := Claim7.holds Tryd.pinned (.plain (OpenSpec.ofChange fnExactListPlanSpec)) fnExactListPlanCard

/-- THE TIED CARD OF 'laws.FnExactLongestFirst'. -/
def fnExactLongestFirstCard : Claim7 := { stood := { row := fnExactLongestFirstRow, standIns := [], harness := (true, "417262daac30676f04843be4d14c1cdfcb4d1a8eb04bd42ba98194278ef8aae2"), looks := false }, kinds := [], alts := [], laidByText := true, laidKinds := [.data, .data], laidTests := true, laidLooks := .later }
def FnExactLongestFirstCardSaid : Prop := Claim7.holds Tryd.pinned (.plain (OpenSpec.ofChange fnExactLongestFirstSpec)) fnExactLongestFirstCard

/-- THE TIED CARD OF 'laws.FnExactTailsFirst'. -/
def fnExactTailsFirstCard : Claim7 := { stood := { row := fnExactTailsFirstRow, standIns := [], harness := (true, "417262daac30676f04843be4d14c1cdfcb4d1a8eb04bd42ba98194278ef8aae2"), looks := false }, kinds := [], alts := [], laidByText := true, laidKinds := [.data, .data], laidTests := true, laidLooks := .later }
def FnExactTailsFirstCardSaid : Prop := Claim7.holds Tryd.pinned (.plain (OpenSpec.ofChange fnExactTailsFirstSpec)) fnExactTailsFirstCard

/-- THE TIED CARD OF 'laws.FnExactLongerWith'. -/
def fnExactLongerWithCard : Claim7 := { stood := { row := fnExactLongerWithRow, standIns := [], harness := (true, "417262daac30676f04843be4d14c1cdfcb4d1a8eb04bd42ba98194278ef8aae2"), looks := false }, kinds := [], alts := [], laidByText := true, laidKinds := [.data, .data], laidTests := true, laidLooks := .later }
def FnExactLongerWithCardSaid : Prop := Claim7.holds Tryd.pinned (.plain (OpenSpec.ofChange fnExactLongerWithSpec)) fnExactLongerWithCard

/-- THE TIED CARD OF 'laws.FnExactTotalEnd'. -/
def fnExactTotalEndCard : Claim7 := { stood := { row := fnExactTotalEndRow, standIns := [], harness := (true, "417262daac30676f04843be4d14c1cdfcb4d1a8eb04bd42ba98194278ef8aae2"), looks := false }, kinds := [], alts := [], laidByText := true, laidKinds := [.data, .data], laidTests := true, laidLooks := .later }
def FnExactTotalEndCardSaid : Prop := Claim7.holds Tryd.pinned (.plain (OpenSpec.ofChange fnExactTotalEndSpec)) fnExactTotalEndCard

/-- THE TIED CARD OF 'laws.FnExactLongerWithout'. -/
def fnExactLongerWithoutCard : Claim7 := { stood := { row := fnExactLongerWithoutRow, standIns := [], harness := (true, "417262daac30676f04843be4d14c1cdfcb4d1a8eb04bd42ba98194278ef8aae2"), looks := false }, kinds := [], alts := [], laidByText := true, laidKinds := [.data, .data], laidTests := true, laidLooks := .later }
def FnExactLongerWithoutCardSaid : Prop := Claim7.holds Tryd.pinned (.plain (OpenSpec.ofChange fnExactLongerWithoutSpec)) fnExactLongerWithoutCard

/-- THE TIED CARD OF 'laws.FnExactIdleChain'. -/
def fnExactIdleChainCard : Claim7 := { stood := { row := fnExactIdleChainRow, standIns := [], harness := (true, "417262daac30676f04843be4d14c1cdfcb4d1a8eb04bd42ba98194278ef8aae2"), looks := false }, kinds := [], alts := [], laidByText := true, laidKinds := [.data, .data], laidTests := true, laidLooks := .later }
def FnExactIdleChainCardSaid : Prop := Claim7.holds Tryd.pinned (.plain (OpenSpec.ofChange fnExactIdleChainSpec)) fnExactIdleChainCard

/-- THE TIED CARD OF 'laws.FnExactLabelPlan'. -/
def fnExactLabelPlanCard : Claim7 := { stood := { row := fnExactLabelPlanRow, standIns := [], harness := (true, "417262daac30676f04843be4d14c1cdfcb4d1a8eb04bd42ba98194278ef8aae2"), looks := false }, kinds := [], alts := [], laidByText := true, laidKinds := [.data, .data], laidTests := true, laidLooks := .later }
def FnExactLabelPlanCardSaid : Prop := Claim7.holds Tryd.pinned (.plain (OpenSpec.ofChange fnExactLabelPlanSpec)) fnExactLabelPlanCard

/-- THE SECOND FORM's CARD OF 'laws.FnExactListPlan'. -/
def fnExactListPlanUptoCard : Claim7 := { stood := { row := fnExactListPlanUptoRow, standIns := [], harness := (true, "417262daac30676f04843be4d14c1cdfcb4d1a8eb04bd42ba98194278ef8aae2"), looks := false }, kinds := [], alts := [], laidByText := true, laidKinds := [.data, .data], laidTests := true, laidLooks := .later }
def FnExactListPlanUptoCardSaid : Prop := Claim7.holds Tryd.pinned (.plain (OpenSpec.upto fnExactListPlanSpec)) fnExactListPlanUptoCard

/-- THE SECOND FORM's CARD OF 'laws.FnExactLongestFirst'. -/
def fnExactLongestFirstUptoCard : Claim7 := { stood := { row := fnExactLongestFirstUptoRow, standIns := [], harness := (true, "417262daac30676f04843be4d14c1cdfcb4d1a8eb04bd42ba98194278ef8aae2"), looks := false }, kinds := [], alts := [], laidByText := true, laidKinds := [.data, .data], laidTests := true, laidLooks := .later }
def FnExactLongestFirstUptoCardSaid : Prop := Claim7.holds Tryd.pinned (.plain (OpenSpec.upto fnExactLongestFirstSpec)) fnExactLongestFirstUptoCard

/-- THE SECOND FORM's CARD OF 'laws.FnExactTailsFirst'. -/
def fnExactTailsFirstUptoCard : Claim7 := { stood := { row := fnExactTailsFirstUptoRow, standIns := [], harness := (true, "417262daac30676f04843be4d14c1cdfcb4d1a8eb04bd42ba98194278ef8aae2"), looks := false }, kinds := [], alts := [], laidByText := true, laidKinds := [.data, .data], laidTests := true, laidLooks := .later }
def FnExactTailsFirstUptoCardSaid : Prop := Claim7.holds Tryd.pinned (.plain (OpenSpec.upto fnExactTailsFirstSpec)) fnExactTailsFirstUptoCard

/-- THE SECOND FORM's CARD OF 'laws.FnExactLongerWith'. -/
def fnExactLongerWithUptoCard : Claim7 := { stood := { row := fnExactLongerWithUptoRow, standIns := [], harness := (true, "417262daac30676f04843be4d14c1cdfcb4d1a8eb04bd42ba98194278ef8aae2"), looks := false }, kinds := [], alts := [], laidByText := true, laidKinds := [.data, .data], laidTests := true, laidLooks := .later }
def FnExactLongerWithUptoCardSaid : Prop := Claim7.holds Tryd.pinned (.plain (OpenSpec.upto fnExactLongerWithSpec)) fnExactLongerWithUptoCard

/-- THE SECOND FORM's CARD OF 'laws.FnExactTotalEnd'. -/
def fnExactTotalEndUptoCard : Claim7 := { stood := { row := fnExactTotalEndUptoRow, standIns := [], harness := (true, "417262daac30676f04843be4d14c1cdfcb4d1a8eb04bd42ba98194278ef8aae2"), looks := false }, kinds := [], alts := [], laidByText := true, laidKinds := [.data, .data], laidTests := true, laidLooks := .later }
def FnExactTotalEndUptoCardSaid : Prop := Claim7.holds Tryd.pinned (.plain (OpenSpec.upto fnExactTotalEndSpec)) fnExactTotalEndUptoCard

/-- THE SECOND FORM's CARD OF 'laws.FnExactLongerWithout'. -/
def fnExactLongerWithoutUptoCard : Claim7 := { stood := { row := fnExactLongerWithoutUptoRow, standIns := [], harness := (true, "417262daac30676f04843be4d14c1cdfcb4d1a8eb04bd42ba98194278ef8aae2"), looks := false }, kinds := [], alts := [], laidByText := true, laidKinds := [.data, .data], laidTests := true, laidLooks := .later }
def FnExactLongerWithoutUptoCardSaid : Prop := Claim7.holds Tryd.pinned (.plain (OpenSpec.upto fnExactLongerWithoutSpec)) fnExactLongerWithoutUptoCard

/-- THE SECOND FORM's CARD OF 'laws.FnExactIdleChain'. -/
def fnExactIdleChainUptoCard : Claim7 := { stood := { row := fnExactIdleChainUptoRow, standIns := [], harness := (true, "417262daac30676f04843be4d14c1cdfcb4d1a8eb04bd42ba98194278ef8aae2"), looks := false }, kinds := [], alts := [], laidByText := true, laidKinds := [.data, .data], laidTests := true, laidLooks := .later }
def FnExactIdleChainUptoCardSaid : Prop := Claim7.holds Tryd.pinned (.plain (OpenSpec.upto fnExactIdleChainSpec)) fnExactIdleChainUptoCard

/-- THE SECOND FORM's CARD OF 'laws.FnExactLabelPlan'. -/
def fnExactLabelPlanUptoCard : Claim7 := { stood := { row := fnExactLabelPlanUptoRow, standIns := [], harness := (true, "417262daac30676f04843be4d14c1cdfcb4d1a8eb04bd42ba98194278ef8aae2"), looks := false }, kinds := [], alts := [], laidByText := true, laidKinds := [.data, .data], laidTests := true, laidLooks := .later }
def FnExactLabelPlanUptoCardSaid : Prop := Claim7.holds Tryd.pinned (.plain (OpenSpec.upto fnExactLabelPlanSpec)) fnExactLabelPlanUptoCard
end Rows
end Go.Proofs.YtejgpecmjfgfbaaDoor
