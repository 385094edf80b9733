/- Marked jobs are held, at a mark of the walk. -/
import Derived.Test.YtgiecjcgidgpfabJobsH
import Derived.Test.YtgiecjcgidgpfabSegH
namespace Go.Proofs.Ytgiecjcgidgpfab
open Go.RowKit
theorem heldJobS_seg (A : Option Addr) (c n : Nat) (k : Int) (w : World) (hr : Row w A (jc (numsJ k.toNat n))) (h0 : 0 ≤ k) (h1 : k ≤ 1000000000) (hn : n ≤ 10000000) :
    Calls Try.prog 51 #[.slice A n c, .int .i64 k] w fun e w' => e = .returned (.int .i64 (k + 4 * n)) ∧ w = w' := by
  have hk : k = (k.toNat : Int) := by omega
  have H := heldJobS_same A c n k.toNat w hr hn (by omega)
  rw [← hk] at H
  refine H.mono ?_
  rintro e w' ⟨rfl, rfl⟩
  exact ⟨by rw [show ((k.toNat + 4 * n : Nat) : Int) = k + 4 * n by omega], rfl⟩
end Go.Proofs.Ytgiecjcgidgpfab
