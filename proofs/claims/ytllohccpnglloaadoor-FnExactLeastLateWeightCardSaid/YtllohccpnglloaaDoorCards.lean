/-
  DERIVED. GIVEN WITH THE SEED: THE CARDS: each row of YtllohccpnglloaaDoorRows.lean that lists a variable, with what it lists TIED to the program's text (the seventh form; the later family's looks); each row that meets fmt, with fmt's text TOLD by the authors' own Lean function (tested against real Go, not proved from fmt's source: count such statements apart). THE CARD IS WHAT COUNTS. Prove the row's statement (the work); the ties are given (YtllohccpnglloaaDoorTie.lean); close each card by the builder's one call (the guide's Derived/Test/ToyasCard.lean, 'card_holds'). Laid BY PROGRAM, IN A SANDBOX (cutbox-door.mjs). By AI agents, Wed Nov 11 2026. No macro, syntax, notation, axiom, sorry.
-/
import Derived.Test.YtllohccpnglloaaDoorRows
import GoSem.ClaimSeven
namespace Go.Proofs.YtllohccpnglloaaDoor
namespace Rows

/-- THE TIED CARD OF 'laws.FnExactWeightTable'. -/
def fnExactWeightTableCard : Claim7 := { stood := { row := fnExactWeightTableRow, standIns := [], harness := (true, "9ef88eafdbc981ec7906c923d13173abf82d0fc5bce6e4eaef4b41ee1f4c8ec9"), looks := false }, kinds := [], alts := [], laidByText := true, laidKinds := [.data, .data], laidTests := true, laidLooks := .later }
def FnExactWeightTableCardSaid : Prop := Claim7.holds Tryd.pinned (.plain (OpenSpec.ofChange fnExactWeightTableSpec)) fnExactWeightTableCard

/-- THE TIED CARD OF 'laws.FnExactLeastLateWeight'. -/
def fnExactLeastLateWeightCard : Claim7 := { stood := { row := fnExactLeastLateWeightRow, standIns := [], harness := (true, "9ef88eafdbc981ec7906c923d13173abf82d0fc5bce6e4eaef4b41ee1f4c8ec9"), looks := false }, kinds := [], alts := [], laidByText := true, laidKinds := [.data, .data], laidTests := true, laidLooks := .later }
def FnExactLeastLateWeightCardSaid : Prop := Claim7.holds Tryd.pinned (.plain (OpenSpec.ofChange fnExactLeastLateWeightSpec)) fnExactLeastLateWeightCard

/-- THE SECOND FORM's CARD OF 'laws.FnExactWeightTable'. -/
def fnExactWeightTableUptoCard : Claim7 := { stood := { row := fnExactWeightTableUptoRow, standIns := [], harness := (true, "9ef88eafdbc981ec7906c923d13173abf82d0fc5bce6e4eaef4b41ee1f4c8ec9"), looks := false }, kinds := [], alts := [], laidByText := true, laidKinds := [.data, .data], laidTests := true, laidLooks := .later }
def FnExactWeightTableUptoCardSaid : Prop := Claim7.holds Tryd.pinned (.plain (OpenSpec.upto fnExactWeightTableSpec)) fnExactWeightTableUptoCard

/-- THE SECOND FORM's CARD OF 'laws.FnExactLeastLateWeight'. -/
def fnExactLeastLateWeightUptoCard : Claim7 := { stood := { row := fnExactLeastLateWeightUptoRow, standIns := [], harness := (true, "9ef88eafdbc981ec7906c923d13173abf82d0fc5bce6e4eaef4b41ee1f4c8ec9"), looks := false }, kinds := [], alts := [], laidByText := true, laidKinds := [.data, .data], laidTests := true, laidLooks := .later }
def FnExactLeastLateWeightUptoCardSaid : Prop := Claim7.holds Tryd.pinned (.plain (OpenSpec.upto fnExactLeastLateWeightSpec)) fnExactLeastLateWeightUptoCard
end Rows
end Go.Proofs.YtllohccpnglloaaDoor
