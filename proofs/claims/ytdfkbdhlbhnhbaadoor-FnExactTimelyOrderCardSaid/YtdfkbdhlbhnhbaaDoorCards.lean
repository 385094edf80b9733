/-
  DERIVED. GIVEN WITH THE SEED: THE CARDS: each row of YtdfkbdhlbhnhbaaDoorRows.lean that lists a variable, with what it lists TIED to the program's text (the seventh form; the later family's looks); each row that meets fmt, with fmt's text TOLD by the authors' own Lean function (tested against real Go, not proved from fmt's source: count such statements apart). THE CARD IS WHAT COUNTS. Prove the row's statement (the work); the ties are given (YtdfkbdhlbhnhbaaDoorTie.lean); close each card by the builder's one call (the guide's Derived/Test/ToyasCard.lean, 'card_holds'). Laid BY PROGRAM, IN A SANDBOX (cutbox-door.mjs). By AI agents, Wed Nov 11 2026. No macro, syntax, notation, axiom, sorry.
-/
import Derived.Test.YtdfkbdhlbhnhbaaDoorRows
import GoSem.ClaimSeven
namespace Go.Proofs.YtdfkbdhlbhnhbaaDoor
namespace Rows

/-- THE TIED CARD OF 'laws.FnExactTimelyOrder'. -/
def fnExactTimelyOrderCard : Claim7 := { stood := { row := fnExactTimelyOrderRow, standIns := [], harness := (true, "bb1768ec4d5095fed4f818f39e8e18ad4202ace429a2c3d0c01059e4c83eda1d"), looks := false }, kinds := [], alts := [], laidByText := true, laidKinds := [.data, .data], laidTests := true, laidLooks := .later }
def FnExactTimelyOrderCardSaid : Prop := Claim7.holds Tryd.pinned (.plain (OpenSpec.ofChange fnExactTimelyOrderSpec)) fnExactTimelyOrderCard

/-- THE SECOND FORM's CARD OF 'laws.FnExactTimelyOrder'. -/
def fnExactTimelyOrderUptoCard : Claim7 := { stood := { row := fnExactTimelyOrderUptoRow, standIns := [], harness := (true, "bb1768ec4d5095fed4f818f39e8e18ad4202ace429a2c3d0c01059e4c83eda1d"), looks := false }, kinds := [], alts := [], laidByText := true, laidKinds := [.data, .data], laidTests := true, laidLooks := .later }
def FnExactTimelyOrderUptoCardSaid : Prop := Claim7.holds Tryd.pinned (.plain (OpenSpec.upto fnExactTimelyOrderSpec)) fnExactTimelyOrderUptoCard
end Rows
end Go.Proofs.YtdfkbdhlbhnhbaaDoor
