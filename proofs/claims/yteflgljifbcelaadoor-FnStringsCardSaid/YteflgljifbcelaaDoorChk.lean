/- AppendChecksum of the program and of the model. -/
import Derived.Test.YteflgljifbcelaaDoorSum
import Derived.Test.YteflgljifbcelaaDoorStands
import Derived.Test.YteflgljifbcelaaDoorFmt
import Derived.Lib.IndexAny
namespace Go.Proofs.YteflgljifbcelaaDoor
open Go.RowKit

/-- The text with its mark and its checksum. -/
def sealL (l : List UInt8) : List UInt8 := l ++ 35 :: Lib.itoa (sumS l)
def sealB (s : ByteArray) : ByteArray := ⟨(sealL s.data.toList).toArray⟩
theorem itoa_sum_len (l : List UInt8) : 1 ≤ (Lib.itoa (sumS l)).length ∧ (Lib.itoa (sumS l)).length ≤ 6 := by
  have h := sumS_bd l
  unfold Lib.itoa
  rw [if_neg (by omega), Lib.decDigits_length]
  exact ⟨Lib.nDigits_pos _, nDigits_le 6 _ (by omega) (by omega)⟩
theorem sealL_len (l : List UInt8) : (sealL l).length = l.length + 1 + (Lib.itoa (sumS l)).length := by
  unfold sealL; simp; omega
theorem size_toList (s : ByteArray) : s.data.toList.length = s.size := by simp
theorem sealB_size (s : ByteArray) : (sealB s).size = s.size + 1 + (Lib.itoa (sumS s.data.toList)).length := by
  show (sealL s.data.toList).toArray.size = _
  simp [sealL_len]
theorem sealB_eq (s : ByteArray) : (s ++ (⟨#[35]⟩ : ByteArray)) ++ (⟨(Lib.itoa (sumS s.data.toList)).toArray⟩ : ByteArray) = sealB s := by
  apply ByteArray.ext
  unfold sealB sealL
  apply Array.ext'
  simp

theorem l1Stands_35 (s : ByteArray) (w : World) (hs : s.size ≤ maxLen) :
    Calls Tryd.prog 33 #[.string s, .int .u8 35] w fun e w' => e = .returned (.bool (hasB s.data.toList 35)) ∧ w = w' :=
  l1Stands_any s 35 w hs
theorem contains_35 (s : ByteArray) (w : World) :
    Calls Tryd.prog 32 #[.string s, .string ⟨#[35]⟩] w fun e w' => e = .returned (.bool (hasB s.data.toList 35)) ∧ w = w' :=
  (Tryd.strings_Contains_one s 35 w).mono fun _ _ ⟨h1, h2⟩ => ⟨by rw [h1]; unfold hasB; rw [Lib.contains_iff_indexByte], h2.symm⟩

theorem l1Seal_any (s : ByteArray) (w : World) (hs : s.size ≤ 4000000) :
    Calls Tryd.prog 34 #[.string s] w fun e w' => e = .returned (.string (sealB s)) ∧ ∃ m, w' = w.drewN m := by
  have hs' : s.size ≤ maxLen := by unfold maxLen; omega
  have hb := sumS_bd s.data.toList
  have hl := (itoa_sum_len s.data.toList).2
  have h0 : -9000000000000000000 ≤ sumS s.data.toList := by omega
  have h1 : sumS s.data.toList ≤ 9000000000000000000 := by omega
  go_enter Tryd.func34, Tryd.ntmps34
  go_wp2_with (first | (go_at_call 40; refine (l1Sum_any _ _ hs').mono ?_; rintro e w' ⟨rfl, rfl⟩) | (go_at_call 25; refine (l1Num_any _ _ h0 h1).mono ?_; rintro e w' ⟨rfl, m, rfl⟩))
  go_ret
  refine ⟨?_, _, rfl⟩
  exact congrArg (fun x => Ending.returned (Value.string x)) (sealB_eq s)

/-- Can the text be sealed? -/
def canSeal (s : ByteArray) : Prop := s.size ≤ 4000 ∧ hasB s.data.toList 35 = false ∧ (sealB s).size ≤ 4000

theorem spec_Append_yes (s : ByteArray) (w : World) (h : canSeal s) :
    Calls Tryd.prog 17 #[.string s] w fun e w' => e = .returned (.tuple #[.string (sealB s), .bool true]) ∧ ∃ m, w' = w.drewN m := by
  obtain ⟨h1, h2, h3⟩ := h
  have hs' : s.size ≤ maxLen := by unfold maxLen; omega
  have H := l1Stands_35 s w hs'
  rw [h2] at H
  have H' := Lib.hid H; clear H h2
  go_enter Tryd.func17, Tryd.ntmps17
  go_wp2_with (first | (go_at_call 33; refine (H'.out).mono ?_; rintro e w' ⟨rfl, rfl⟩) | (go_at_call 34; refine (l1Seal_any _ _ (by omega)).mono ?_; rintro e w' ⟨rfl, m, rfl⟩))
  go_ret2
  exact ⟨rfl, _, rfl⟩
theorem spec_Append_no (s : ByteArray) (w : World) (hm : s.size ≤ maxLen) (h : ¬ canSeal s) :
    Calls Tryd.prog 17 #[.string s] w fun e w' => e = .returned (.tuple #[.string ⟨#[]⟩, .bool false]) ∧ ∃ m, w' = w.drewN m := by
  have hm' := hm
  unfold maxLen at hm'
  by_cases h1 : s.size ≤ 4000
  · cases h2 : hasB s.data.toList 35 with
    | true =>
      have H := l1Stands_35 s w hm
      rw [h2] at H
      have H' := Lib.hid H; clear H h2 h
      go_enter Tryd.func17, Tryd.ntmps17
      go_wp2_with (go_at_call 33; refine (H'.out).mono ?_; rintro e w' ⟨rfl, rfl⟩)
      go_ret2
      exact ⟨rfl, 0, rfl⟩
    | false =>
      have h3 : 4000 < (sealB s).size := by
        rcases Nat.lt_or_ge 4000 (sealB s).size with g | g
        · exact g
        · exact absurd ⟨h1, h2, g⟩ h
      have h4 : (sealB s).size ≤ 5000 := by rw [sealB_size]; have := itoa_sum_len s.data.toList; omega
      have H := l1Stands_35 s w hm
      rw [h2] at H
      have H' := Lib.hid H; clear H h2 h
      go_enter Tryd.func17, Tryd.ntmps17
      go_wp2_with (first | (go_at_call 33; refine (H'.out).mono ?_; rintro e w' ⟨rfl, rfl⟩) | (go_at_call 34; refine (l1Seal_any _ _ (by omega)).mono ?_; rintro e w' ⟨rfl, m, rfl⟩))
      go_ret2
      exact ⟨rfl, _, rfl⟩
  · clear h
    go_enter Tryd.func17, Tryd.ntmps17
    go_wp2
    go_ret2
    exact ⟨rfl, 0, rfl⟩

theorem impl_Append_yes (s : ByteArray) (w : World) (h : canSeal s) (htab : PowTab w) :
    Calls Tryd.prog 16 #[.string s] w fun e w' => e = .returned (.tuple #[.string (sealB s), .bool true]) ∧ Below w.heap.size w w' := by
  obtain ⟨h1, h2, h3⟩ := h
  have hb := sumS_bd s.data.toList
  have hb0 : -999999 ≤ sumS s.data.toList := by omega
  have hb1 : sumS s.data.toList ≤ 999999 := by omega
  have hl := (itoa_sum_len s.data.toList).2
  have hz : s.size + 1 + (Lib.itoa (sumS s.data.toList)).length ≤ 4000 := by rw [← sealB_size]; exact h3
  have H := contains_35 s w
  rw [h2] at H
  have H' := Lib.hid H; clear H h2 h3 hb
  go_enter Tryd.func16, Tryd.ntmps16
  go_wp2_with (first | (go_at_call 31; refine (impl_Checksum_yes _ _ h1).mono ?_; rintro e w' ⟨rfl, rfl⟩) | (go_at_call 32; refine (H'.out).mono ?_; rintro e w' ⟨rfl, rfl⟩) | (go_at_call 10; refine (impl_FormatInt_yes _ _ hb0 hb1 htab).mono ?_; rintro e w' ⟨rfl, hbel⟩))
  go_ret2
  refine ⟨?_, hbel⟩
  exact congrArg (fun x => Ending.returned (Value.tuple #[Value.string x, Value.bool true])) (sealB_eq s)
theorem impl_Append_no (s : ByteArray) (w : World) (hm : s.size ≤ maxLen) (h : ¬ canSeal s) (htab : PowTab w) :
    Calls Tryd.prog 16 #[.string s] w fun e w' => e = .returned (.tuple #[.string ⟨#[]⟩, .bool false]) ∧ Below w.heap.size w w' := by
  have hm' := hm
  unfold maxLen at hm'
  by_cases h1 : s.size ≤ 4000
  · cases h2 : hasB s.data.toList 35 with
    | true =>
      have H := contains_35 s w
      rw [h2] at H
      have H' := Lib.hid H; clear H h2 h
      go_enter Tryd.func16, Tryd.ntmps16
      go_wp2_with (first | (go_at_call 31; refine (impl_Checksum_yes _ _ h1).mono ?_; rintro e w' ⟨rfl, rfl⟩) | (go_at_call 32; refine (H'.out).mono ?_; rintro e w' ⟨rfl, rfl⟩))
      go_ret2
      exact ⟨rfl, Below.refl _ _⟩
    | false =>
      have hb := sumS_bd s.data.toList
      have hb0 : -999999 ≤ sumS s.data.toList := by omega
      have hb1 : sumS s.data.toList ≤ 999999 := by omega
      have hl := (itoa_sum_len s.data.toList).2
      have hz : 4000 < s.size + 1 + (Lib.itoa (sumS s.data.toList)).length := by
        rw [← sealB_size]
        rcases Nat.lt_or_ge 4000 (sealB s).size with g | g
        · exact g
        · exact absurd ⟨h1, h2, g⟩ h
      have H := contains_35 s w
      rw [h2] at H
      have H' := Lib.hid H; clear H h2 hb h
      go_enter Tryd.func16, Tryd.ntmps16
      go_wp2_with (first | (go_at_call 31; refine (impl_Checksum_yes _ _ h1).mono ?_; rintro e w' ⟨rfl, rfl⟩) | (go_at_call 32; refine (H'.out).mono ?_; rintro e w' ⟨rfl, rfl⟩) | (go_at_call 10; refine (impl_FormatInt_yes _ _ hb0 hb1 htab).mono ?_; rintro e w' ⟨rfl, hbel⟩))
      go_ret2
      exact ⟨rfl, hbel⟩
  · clear h
    go_enter Tryd.func16, Tryd.ntmps16
    go_wp2_with (go_at_call 31; refine (impl_Checksum_no _ _ (by omega) hm).mono ?_; rintro e w' ⟨rfl, rfl⟩)
    go_ret2
    exact ⟨rfl, Below.refl _ _⟩
end Go.Proofs.YteflgljifbcelaaDoor
