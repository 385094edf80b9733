/- The model's decimal numeral (l1Num) as the library's plain function. -/
import Derived.Test.YteflgljifbcelaaDoorRows
import Derived.WalkKit
import Derived.Lib.Hide
import Derived.Lib.ItoaNum
import Derived.Deep.QuietTactic
import Derived.BigQuiet
import Derived.WalkSpells
namespace Go.Proofs.YteflgljifbcelaaDoor
open Go.RowKit

theorem digit_piece {i : Nat} (h : i < 10) : (⟨#[48, 49, 50, 51, 52, 53, 54, 55, 56, 57]⟩ : ByteArray).extract i (i + 1) = ⟨#[UInt8.ofNat (48 + i)]⟩ := by
  have : i = 0 ∨ i = 1 ∨ i = 2 ∨ i = 3 ∨ i = 4 ∨ i = 5 ∨ i = 6 ∨ i = 7 ∨ i = 8 ∨ i = 9 := by omega
  rcases this with rfl | rfl | rfl | rfl | rfl | rfl | rfl | rfl | rfl | rfl <;> decide +kernel
theorem bytes_append (a b : List UInt8) : (⟨a.toArray⟩ : ByteArray) ++ (⟨b.toArray⟩ : ByteArray) = ⟨(a ++ b).toArray⟩ := by
  apply ByteArray.ext
  simp

theorem nDigits_le : ∀ (k u : Nat), 1 ≤ k → u < 10 ^ k → Lib.nDigits u ≤ k
  | 0, _, h, _ => by omega
  | 1, u, _, h => by rw [Lib.nDigits_small (by simpa using h)]; omega
  | k + 2, u, _, h => by
    by_cases hu : u < 10
    · rw [Lib.nDigits_small hu]; omega
    · rw [Lib.nDigits_big hu]
      have := nDigits_le (k + 1) (u / 10) (by omega) (by rw [Nat.pow_succ] at h; omega)
      omega
theorem decDigits_len (u : Nat) (h : u ≤ 9000000000000000000) : (Lib.decDigits u).length ≤ 19 := by
  rw [Lib.decDigits_length]; exact nDigits_le 19 u (by omega) (by omega)

theorem l1Num_nat (k : Nat) : ∀ (n : Int) (w : World), n ≤ k → 0 ≤ n → n ≤ 9000000000000000000 →
    Calls Tryd.prog 25 #[.int .i64 n] w fun e w' => e = .returned (.string ⟨(Lib.decDigits n.toNat).toArray⟩) ∧ ∃ m, w' = w.drewN m := by
  induction k with
  | zero =>
    intro n w hk h0 _
    obtain rfl : n = 0 := by omega
    go_enter Tryd.func25, Tryd.ntmps25
    go_wp2_with fail
    go_ret
    refine ⟨?_, 0, rfl⟩
    rw [Lib.decDigits_one (by decide)]
    rfl
  | succ k ih =>
    intro n w hk h0 hb
    by_cases h : n < 10
    · go_enter Tryd.func25, Tryd.ntmps25
      go_wp2_with fail
      go_ret
      refine ⟨?_, 0, rfl⟩
      have hd := digit_piece (i := n.toNat) (by omega)
      rw [show n.toNat + 1 = (n + 1).toNat by omega] at hd
      rw [Lib.decDigits_one (by omega)]
      exact congrArg (fun x => Ending.returned (Value.string x)) hd
    · have h1 : n / 10 ≤ k := by omega
      have h2 : n / 10 ≤ 9000000000000000000 := by omega
      have h3 : n % 10 < 10 := by omega
      have h4 : 0 ≤ n % 10 := by omega
      have h5 : 0 ≤ n / 10 := by omega
      have hl : (Lib.decDigits (n / 10).toNat).length ≤ 19 := decDigits_len _ (by omega)
      have hl2 : (n % 10 + 1).toNat - (n % 10).toNat ≤ 1 := by omega
      have h6 : 0 ≤ n % 10 + 1 := by omega
      have h7 : n % 10 + 1 ≤ 10 := by omega
      have h8 : n % 10 ≤ n % 10 + 1 := by omega
      have e3 : IntKind.i64.wrap (n.tdiv 10) = n / 10 := by rw [Int.tdiv_eq_ediv_of_nonneg h0]; exact IntWalk.i64_in _ (by omega)
      have e5 : n.tmod 10 = n % 10 := Int.tmod_eq_emod_of_nonneg h0
      have e4 : IntKind.i64.wrap (n % 10 + 1) = n % 10 + 1 := IntWalk.i64_in _ (by omega)
      go_enter Tryd.func25, Tryd.ntmps25
      go_wp2_with fail
      go_quiet ((go_at_call 25; exact Calls.quiet_of (ih _ _ h1 h5 h2)))
      go_wp2_with fail
      go_ret
      refine ⟨?_, _, rfl⟩
      have hd := digit_piece (i := (n % 10).toNat) (by omega)
      rw [show (n % 10).toNat + 1 = (n % 10 + 1).toNat by omega] at hd
      have hr : Lib.decDigits n.toNat = Lib.decDigits (n / 10).toNat ++ [UInt8.ofNat (48 + (n % 10).toNat)] := by
        rw [Lib.decDigits, dif_neg (by omega), show n.toNat / 10 = (n / 10).toNat by omega, show n.toNat % 10 = (n % 10).toNat by omega]
      rw [hr, ← bytes_append]
      exact congrArg (fun x => Ending.returned (Value.string (⟨(Lib.decDigits (n / 10).toNat).toArray⟩ ++ x))) hd

theorem l1Num_neg (n : Int) (w : World) (h : n < 0) (hb : -9000000000000000000 ≤ n) :
    Calls Tryd.prog 25 #[.int .i64 n] w fun e w' => e = .returned (.string ⟨(45 :: Lib.decDigits (-n).toNat).toArray⟩) ∧ ∃ m, w' = w.drewN m := by
  have h1 : -n ≤ ((-n).toNat : Int) := by omega
  have h2 : 0 ≤ -n := by omega
  have h3 : -n ≤ 9000000000000000000 := by omega
  have hl : (Lib.decDigits (-n).toNat).length ≤ 19 := decDigits_len _ (by omega)
  go_enter Tryd.func25, Tryd.ntmps25
  go_wp2_with (go_at_call 25; refine (l1Num_nat _ _ _ h1 h2 h3).mono ?_; rintro e w' ⟨rfl, m, rfl⟩)
  go_ret
  refine ⟨?_, _, rfl⟩
  exact congrArg (fun x => Ending.returned (Value.string x)) (bytes_append [45] (Lib.decDigits (-n).toNat))

/-- THE MODEL's NUMERAL IS THE LIBRARY's, for every number far from the ends of int64. -/
theorem l1Num_any (n : Int) (w : World) (h0 : -9000000000000000000 ≤ n) (h1 : n ≤ 9000000000000000000) :
    Calls Tryd.prog 25 #[.int .i64 n] w fun e w' => e = .returned (.string ⟨(Lib.itoa n).toArray⟩) ∧ ∃ m, w' = w.drewN m := by
  unfold Lib.itoa
  by_cases h : n < 0
  · rw [if_pos h, show n.natAbs = (-n).toNat by omega]
    exact l1Num_neg n w h h0
  · rw [if_neg h]
    exact l1Num_nat n.toNat n w (by omega) (by omega) h1
end Go.Proofs.YteflgljifbcelaaDoor
