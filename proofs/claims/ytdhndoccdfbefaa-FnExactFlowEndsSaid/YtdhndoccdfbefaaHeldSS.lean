/- Marked slices of slices are held, whatever their lengths are called. -/
import Derived.Test.YtdhndoccdfbefaaSegS
namespace Go.Proofs.Ytdhndoccdfbefaa
open Go.RowKit
theorem heldIntSS_n (A : Option Addr) (c n : Nat) (ns : List Nat) (k : Int) (w : World) (hnn : n = ns.length) (hr : RowSS w A (marksSS k.toNat ns)) (h0 : 0 ≤ k) (h1 : k ≤ 100000000) (hn : ns.length ≤ 10000000 ∧ ns.sum ≤ 10000000) :
    Calls Try.prog 29 #[.slice A n c, .int .i64 k] w fun e w' => e = .returned (.int .i64 (k + ns.sum)) ∧ w = w' := by
  subst hnn
  exact heldIntSS_seg A c ns k w hr h0 h1 hn
end Go.Proofs.Ytdhndoccdfbefaa
