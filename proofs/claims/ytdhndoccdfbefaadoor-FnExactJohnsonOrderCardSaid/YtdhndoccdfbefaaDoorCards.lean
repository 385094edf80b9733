/-
  DERIVED. GIVEN WITH THE SEED: THE CARDS: each row of YtdhndoccdfbefaaDoorRows.lean that lists a variable, with what it lists TIED to the program's text (the seventh form; the later family's looks); each row that meets fmt, with fmt's text TOLD by the authors' own Lean function (tested against real Go, not proved from fmt's source: count such statements apart). THE CARD IS WHAT COUNTS. Prove the row's statement (the work); the ties are given (YtdhndoccdfbefaaDoorTie.lean); close each card by the builder's one call (the guide's Derived/Test/ToyasCard.lean, 'card_holds'). Laid BY PROGRAM, IN A SANDBOX (cutbox-door.mjs). By AI agents, Wed Nov 11 2026. No macro, syntax, notation, axiom, sorry.
-/
import Derived.Test.YtdhndoccdfbefaaDoorRows
import GoSem.ClaimSeven
namespace Go.Proofs.YtdhndoccdfbefaaDoor
namespace Rows

/-- THE TIED CARD OF 'laws.FnExactJohnsonOrder'. -/
def fnExactJohnsonOrderCard : Claim7 := { stood := { row := fnExactJohnsonOrderRow, standIns := [], harness := (true, "d04e3a812aa191d54db9bed7e83f44dfe9027e15ea0f42be65e208d7d7737a31"), looks := false }, kinds := [], alts := [], laidByText := true, laidKinds := [.data, .data], laidTests := true, laidLooks := .later }
def FnExactJohnsonOrderCardSaid : Prop := Claim7.holds Tryd.pinned (.plain (OpenSpec.ofChange fnExactJohnsonOrderSpec)) fnExactJohnsonOrderCard

/-- THE SECOND FORM's CARD OF 'laws.FnExactJohnsonOrder'. -/
def fnExactJohnsonOrderUptoCard : Claim7 := { stood := { row := fnExactJohnsonOrderUptoRow, standIns := [], harness := (true, "d04e3a812aa191d54db9bed7e83f44dfe9027e15ea0f42be65e208d7d7737a31"), looks := false }, kinds := [], alts := [], laidByText := true, laidKinds := [.data, .data], laidTests := true, laidLooks := .later }
def FnExactJohnsonOrderUptoCardSaid : Prop := Claim7.holds Tryd.pinned (.plain (OpenSpec.upto fnExactJohnsonOrderSpec)) fnExactJohnsonOrderUptoCard
end Rows
end Go.Proofs.YtdhndoccdfbefaaDoor
