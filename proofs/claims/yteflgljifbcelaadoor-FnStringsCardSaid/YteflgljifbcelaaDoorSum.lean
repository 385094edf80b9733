/- The checksum as one plain function of the bytes: the model's sum and the program's Checksum. -/
import Derived.Test.YteflgljifbcelaaDoorRows
import Derived.WalkKit
import Derived.Lib.Hide
namespace Go.Proofs.YteflgljifbcelaaDoor
open Go.RowKit

def sumS (l : List UInt8) : Int := l.foldl (fun h c => (41 * h + (c.toNat : Int) + 1) % 999979) 7
theorem sumS_bd (l : List UInt8) : 0 ≤ sumS l ∧ sumS l ≤ 999978 := by
  unfold sumS
  suffices ∀ h : Int, 0 ≤ h ∧ h ≤ 999978 → 0 ≤ l.foldl (fun h c => (41 * h + (c.toNat : Int) + 1) % 999979) h ∧ l.foldl (fun h c => (41 * h + (c.toNat : Int) + 1) % 999979) h ≤ 999978 from this 7 (by omega)
  induction l with
  | nil => intro h hh; simpa using hh
  | cons c l ih => intro h hh; simp only [List.foldl_cons]; exact ih _ (by omega)
theorem sumS_take (s : ByteArray) (k : Nat) (h : k < s.size) : sumS (s.data.toList.take (k + 1)) = (41 * sumS (s.data.toList.take k) + (s[k].toNat : Int) + 1) % 999979 := by
  rw [List.take_succ_eq_append_getElem (by simpa using h)]
  unfold sumS
  rw [List.foldl_append]
  rfl
theorem sumS_all (s : ByteArray) : sumS (s.data.toList.take s.size) = sumS s.data.toList := by
  rw [List.take_of_length_le (by simp)]

theorem l1Sum_any (s : ByteArray) (w : World) (hs : s.size ≤ maxLen) :
    Calls Tryd.prog 40 #[.string s] w fun e w' => e = .returned (.int .i64 (sumS s.data.toList)) ∧ w = w' := by
  unfold maxLen at hs
  go_enter Tryd.func40, Tryd.ntmps40
  go_wp2
  go_loop [3, 4] (fun n i => ∃ k : Nat, k ≤ s.size ∧ i = .int .i64 k ∧ n = .int .i64 (sumS (s.data.toList.take k))) (fun _ i => s.size - (intOf i).toNat)
  case atStart => exact ⟨0, Nat.zero_le _, rfl, rfl⟩
  case round =>
    obtain ⟨k, hk, rfl, rfl⟩ := hrel
    have hd1 := (sumS_bd (s.data.toList.take k)).1
    have hd2 := (sumS_bd (s.data.toList.take k)).2
    by_cases hlt : k < s.size
    · have HS := Lib.hid (sumS_take s k hlt)
      have hb : (s[k].toNat : Int) ≤ 255 := by have := s[k].toNat_lt; omega
      have hb0 : 0 ≤ (s[k].toNat : Int) := by omega
      go_wp2
      go_round
      case rel => exact ⟨k + 1, by omega, by go_num, by rw [HS.out]⟩
      case measure => simp [intOf]; omega
    · go_wp2
      go_ret
      obtain rfl : k = s.size := by omega
      exact ⟨by rw [sumS_all]; rfl, rfl⟩

theorem impl_Checksum_no (s : ByteArray) (w : World) (hs : 4000 < s.size) (hs' : s.size ≤ maxLen) :
    Calls Tryd.prog 31 #[.string s] w fun e w' => e = .returned (.tuple #[.int .i64 0, .bool false]) ∧ w = w' := by
  unfold maxLen at hs'
  go_enter Tryd.func31, Tryd.ntmps31
  go_wp2
  go_ret2
  exact ⟨rfl, rfl⟩
theorem impl_Checksum_yes (s : ByteArray) (w : World) (hs : s.size ≤ 4000) :
    Calls Tryd.prog 31 #[.string s] w fun e w' => e = .returned (.tuple #[.int .i64 (sumS s.data.toList), .bool true]) ∧ w = w' := by
  go_enter Tryd.func31, Tryd.ntmps31
  go_wp2
  go_loop [4, 5, 11] (fun n _ i => ∃ k : Nat, k ≤ s.size ∧ i = .int .i64 k ∧ n = .int .i64 (sumS (s.data.toList.take k))) (fun _ _ i => s.size - (intOf i).toNat)
  case atStart => exact ⟨0, Nat.zero_le _, rfl, rfl⟩
  case round =>
    obtain ⟨k, hk, rfl, rfl⟩ := hrel
    have hd1 := (sumS_bd (s.data.toList.take k)).1
    have hd2 := (sumS_bd (s.data.toList.take k)).2
    by_cases hlt : k < s.size
    · have HS := Lib.hid (sumS_take s k hlt)
      have hb : (s[k].toNat : Int) ≤ 255 := by have := s[k].toNat_lt; omega
      have hb0 : 0 ≤ (s[k].toNat : Int) := by omega
      go_wp2
      go_round
      case rel => exact ⟨k + 1, by omega, by go_num, by rw [HS.out]⟩
      case measure => simp [intOf]; omega
    · go_wp2
      go_ret2
      obtain rfl : k = s.size := by omega
      exact ⟨by rw [sumS_all]; rfl, rfl⟩
end Go.Proofs.YteflgljifbcelaaDoor
