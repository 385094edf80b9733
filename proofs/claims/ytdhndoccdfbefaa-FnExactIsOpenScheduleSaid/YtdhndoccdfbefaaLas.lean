/- The greatest of some numbers: the model's. -/
import Derived.Test.YtdhndoccdfbefaaEndsO
import Derived.Test.YtdhndoccdfbefaaSchedE
namespace Go.Proofs.Ytdhndoccdfbefaa
open Go.RowKit
theorem l2Last_any (A : Option Addr) (c : Nat) (xs : List Int) (w : World) (hr : Row w A (ic xs)) (hn : xs.length ≤ 100000) :
    Calls Try.prog 74 #[.slice A xs.length c] w fun e w' => e = .returned (.int .i64 (mostGo xs 0)) ∧ w = w' := by
  go_enter Try.func74, Try.ntmps74
  go_wp2
  go_loop [3, 4] (fun s i => ∃ (k : Nat) (t : Int), k ≤ xs.length ∧ i = .int .i64 k ∧ s = .int .i64 t ∧ Hid (mostGo (xs.drop k) t = mostGo xs 0)) (fun _ i => xs.length - (intOf i).toNat)
  case atStart => exact ⟨0, 0, Nat.zero_le _, rfl, rfl, rfl⟩
  case round =>
    obtain ⟨k, t, hk, rfl, rfl, hT⟩ := hrel
    by_cases hlt : k < xs.length
    · obtain ⟨ad, hA, hc⟩ := hr.int hlt
      subst hA
      have HT : Hid (mostGo (xs.drop (k + 1)) (max t xs[k]) = mostGo xs 0) := by show _ = _; rw [← mostGo_drop xs k t hlt, hT.out]
      have hk0 : (0 : Int) ≤ k := by omega
      have hk1 : (k : Int) < xs.length := by omega
      clear hT hr
      generalize xs[k] = x at *
      go_wp2_with fail
      refine (l1Most_any t x _).mono ?_
      rintro e w1 ⟨rfl, rfl⟩
      go_wp2
      go_round
      case rel => exact ⟨k + 1, max t x, by omega, by go_num, by go_num, HT⟩
      case measure => simp [intOf]; omega
    · obtain rfl : k = xs.length := by omega
      have hT' := hT.out
      rw [List.drop_eq_nil_of_le (by omega)] at hT'
      have HT : Hid (t = mostGo xs 0) := hT'
      clear hT hT'
      go_wp2
      go_ret
      exact ⟨by rw [← HT.out]; rfl, rfl⟩
theorem most_from (xs : List Int) : ∀ t : Int, 0 ≤ t → mostGo xs t = max t (mostGo xs 0) := by
  induction xs with
  | nil => intro t h; show t = max t 0; omega
  | cons x xs ih =>
    intro t h
    show mostGo xs (max t x) = max t (mostGo xs (max 0 x))
    rw [ih (max t x) (by omega), ih (max 0 x) (by omega)]
    omega
end Go.Proofs.Ytdhndoccdfbefaa
