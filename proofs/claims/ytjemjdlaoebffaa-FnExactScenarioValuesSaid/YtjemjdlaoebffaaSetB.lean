/- Which operations are listed. -/
import Derived.Test.YtjemjdlaoebffaaRegInv
namespace Go.Proofs.Ytjemjdlaoebffaa
theorem set_ne {L : Array Bool} {k j : Nat} (h : k ≠ j) (b : Bool) : (L.setIfInBounds k true).getD j b = L.getD j b := by
  rw [getD_set_true, if_neg (fun e => h e.1)]
theorem set_eq {L : Array Bool} {k : Nat} (h : k < L.size) (b : Bool) : (L.setIfInBounds k true).getD k b = true := by
  rw [getD_set_true, if_pos ⟨rfl, h⟩]
end Go.Proofs.Ytjemjdlaoebffaa
