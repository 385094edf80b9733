/- l1Stands: does a byte stand in a text? -/
import Derived.Test.YteflgljifbcelaaBase
namespace Go.Proofs.Yteflgljifbcelaa
open Go.RowKit

/-- Does a byte stand in a list? (A word of its own, so that the walk does not lay it open.) -/
def hasB (l : List UInt8) (c : UInt8) : Bool := l.contains c
theorem hasB_take (s : ByteArray) (c : UInt8) (k : Nat) (h : k < s.size) : hasB (s.data.toList.take (k + 1)) c = (hasB (s.data.toList.take k) c || s[k] == c) := by
  unfold hasB
  rw [List.take_succ_eq_append_getElem (by simpa using h), List.contains_eq_any_beq, List.contains_eq_any_beq, List.any_append, List.any_cons, List.any_nil, Bool.or_false, BEq.comm (a := c)]
  rfl
theorem hasB_of_take {l : List UInt8} {c : UInt8} {k : Nat} (h : hasB (l.take k) c = true) : hasB l c = true := by
  unfold hasB at *
  rw [List.contains_iff_mem] at *
  exact List.mem_of_mem_take h
theorem hasB_all {s : ByteArray} {c : UInt8} (h : hasB (s.data.toList.take s.size) c = false) : hasB s.data.toList c = false := by
  rwa [List.take_of_length_le (by simp)] at h

theorem l1Stands_any (s : ByteArray) (c : UInt8) (w : World) (hs : s.size ≤ maxLen) :
    Calls Try.prog 32 #[.string s, .int .u8 (c.toNat : Int)] w fun e w' => e = .returned (.bool (hasB s.data.toList c)) ∧ w = w' := by
  unfold maxLen at hs
  go_enter Try.func32, Try.ntmps32
  go_wp2
  go_loop [5] (fun i => ∃ k : Nat, k ≤ s.size ∧ i = .int .i64 k ∧ Hid (hasB (s.data.toList.take k) c = false)) (fun i => s.size - (intOf i).toNat)
  case atStart => exact ⟨0, Nat.zero_le _, rfl, rfl⟩
  case round =>
    obtain ⟨k, hk, rfl, hc⟩ := hrel
    by_cases hlt : k < s.size
    · have HS := Lib.hid (hasB_take s c k hlt)
      by_cases he : s[k] = c
      · have hb : ((s[k].toNat : Int) == (c.toNat : Int)) = true := by rw [he]; simp
        go_wp2
        go_ret
        have h2 : hasB s.data.toList c = true := hasB_of_take (k := k + 1) (by rw [HS.out, he]; simp)
        exact ⟨by rw [h2]; rfl, rfl⟩
      · have hb : ((s[k].toNat : Int) == (c.toNat : Int)) = false := by
          simp only [beq_eq_false_iff_ne, ne_eq]; intro h; exact he (UInt8.toNat_inj.1 (by omega))
        go_wp2
        go_round
        case rel => exact ⟨k + 1, by omega, by go_num, by show _ = false; rw [HS.out, hc.out]; simpa using he⟩
        case measure => simp [intOf]; omega
    · go_wp2
      go_ret
      obtain rfl : k = s.size := by omega
      have h2 := hasB_all hc.out
      exact ⟨by rw [h2]; rfl, rfl⟩
end Go.Proofs.Yteflgljifbcelaa
