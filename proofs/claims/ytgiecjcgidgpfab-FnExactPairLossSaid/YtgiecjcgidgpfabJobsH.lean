/- Marked jobs are held. -/
import Derived.Test.YtgiecjcgidgpfabJobs
namespace Go.Proofs.Ytgiecjcgidgpfab
open Go.RowKit
theorem heldJobS_same (A : Option Addr) (c n k0 : Nat) (w : World) (hr : Row w A (jc (numsJ k0 n))) (hn1 : n ≤ 10000000) (hk1 : k0 ≤ 1000000000) :
    Calls Try.prog 51 #[.slice A n c, .int .i64 (k0 : Int)] w fun e w' => e = .returned (.int .i64 ((k0 + 4 * n : Nat) : Int)) ∧ w = w' := by
  go_enter Try.func51, Try.ntmps51
  go_wp2
  go_loop [1, 5] (fun k i => ∃ m : Nat, m ≤ n ∧ i = .int .i64 (m : Int) ∧ k = .int .i64 ((k0 + 4 * m : Nat) : Int)) (fun _ i => n - (intOf i).toNat)
  case atStart => exact ⟨0, Nat.zero_le _, rfl, by go_num⟩
  case round =>
    obtain ⟨m, hm, rfl, rfl⟩ := hrel
    by_cases hlt : m < n
    · obtain ⟨ad, hA, _, hc0, hc1, hc2, hc3⟩ := hr.job (k := m) (by rw [numsJ_len]; exact hlt)
      rw [numsJ_get k0 n m hlt] at hc0 hc1 hc2 hc3
      subst hA
      have hi : (0 : Int) ≤ m := by omega
      have hi' : (m : Int) < n := by omega
      have hcast : ((k0 + 4 * m : Nat) : Int) = (k0 : Int) + 4 * m := by omega
      simp only [numJ, hcast] at hc0 hc1 hc2 hc3
      clear hr
      go_wp2
      go_round
      case rel => exact ⟨m + 1, by omega, by go_num, by go_num⟩
      case measure => simp [intOf]; omega
    · obtain rfl : m = n := by omega
      go_wp2
      go_ret
      exact ⟨rfl, rfl⟩
end Go.Proofs.Ytgiecjcgidgpfab
