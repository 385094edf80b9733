/- ParseInt, both sides, by the reading of the bytes. -/
import Derived.Test.YteflgljifbcelaaDoorParse
namespace Go.Proofs.YteflgljifbcelaaDoor
open Go.RowKit

def numB (n : Int) : ByteArray := ⟨(Lib.itoa n).toArray⟩
def inDec (n : Int) : Prop := -999999 ≤ n ∧ n ≤ 999999
def noNum (s : ByteArray) : Prop := ∀ n, inDec n → numB n ≠ s

theorem impl_Parse_yes (n : Int) (w : World) (h : inDec n) (htab : PowTab w) :
    Calls Tryd.prog 13 #[.string (numB n)] w fun e w' => e = .returned (.tuple #[.int .i64 n, .bool true]) ∧ Below w.heap.size w w' := by
  obtain ⟨h0, h1⟩ := h
  have hlen : (numB n).size ≤ maxLen := by
    unfold numB
    rw [size_mk]
    unfold Lib.itoa maxLen
    by_cases hn : n < 0
    · rw [if_pos hn, List.length_cons]; have := decDigits_len n.natAbs (by omega); omega
    · rw [if_neg hn]; have := decDigits_len n.toNat (by omega); omega
  have H := leadingNumber_any (numB n) w hlen
  rw [show (numB n).data.toList = Lib.itoa n by unfold numB; rw [toList_mk], leadGo_itoa n h0 h1] at H
  have H' := Lib.hid H; clear H
  have F := fun w ht => impl_FormatInt_yes n w h0 h1 ht
  have hF : ∀ w, PowTab w → Calls Tryd.prog 10 #[.int .i64 n] w fun e w' => e = .returned (.tuple #[.string (numB n), .bool true]) ∧ Below w.heap.size w w' := F
  have HF := Lib.hid hF; clear F hF
  go_enter Tryd.func13, Tryd.ntmps13
  go_wp2_with (first | (go_at_call 28; refine (H'.out).mono ?_; rintro e w' ⟨rfl, rfl⟩) | (go_at_call 10; refine (HF.out _ htab).mono ?_; rintro e w' ⟨rfl, hb⟩))
  go_ret2
  exact ⟨rfl, hb⟩

theorem impl_Parse_no (s : ByteArray) (w : World) (hs : s.size ≤ maxLen) (h : noNum s) (htab : PowTab w) :
    Calls Tryd.prog 13 #[.string s] w fun e w' => e = .returned (.tuple #[.int .i64 0, .bool false]) ∧ Below w.heap.size w w' := by
  have H := leadingNumber_any s w hs
  generalize leadGo true 0 1 s.data.toList = n at H
  have H' := Lib.hid H; clear H
  by_cases hin : inDec n
  · have hne := bytes_ne (h n hin)
    obtain ⟨h0, h1⟩ := hin
    have hF : ∀ w, PowTab w → Calls Tryd.prog 10 #[.int .i64 n] w fun e w' => e = .returned (.tuple #[.string (numB n), .bool true]) ∧ Below w.heap.size w w' := fun w ht => impl_FormatInt_yes n w h0 h1 ht
    have HF := Lib.hid hF; clear hF h
    go_enter Tryd.func13, Tryd.ntmps13
    go_wp2_with (first | (go_at_call 28; refine (H'.out).mono ?_; rintro e w' ⟨rfl, rfl⟩) | (go_at_call 10; refine (HF.out _ htab).mono ?_; rintro e w' ⟨rfl, hb⟩))
    go_ret2
    exact ⟨rfl, hb⟩
  · have hF := Lib.hid (show n < -999999 ∨ 999999 < n by unfold inDec at hin; omega)
    clear hin h
    go_enter Tryd.func13, Tryd.ntmps13
    go_wp2_with (first | (go_at_call 28; refine (H'.out).mono ?_; rintro e w' ⟨rfl, rfl⟩) | (go_at_call 10; refine (impl_FormatInt_no _ _ hF.out).mono ?_; rintro e w' ⟨rfl, hb⟩))
    go_ret2
    exact ⟨rfl, hb⟩

/-! The model's reading. 'R': what is asked of the two results. -/
def ReadSome (R : Int → Bool → Prop) (w : World) (e : Ending) (w' : World) : Prop := ∃ n b, e = .returned (.tuple #[.int .i64 n, .bool b]) ∧ R n b ∧ ∃ m, w' = w.drewN m
theorem valD_bound : ∀ (l : List UInt8) (k : Nat) (n : Int), l.all isDig = true → l.length ≤ k → 0 ≤ n → valD n l ≤ n * 10 ^ k + 10 ^ k - 1
  | [], k, n, _, _, h0 => by
    have : (1 : Int) ≤ 10 ^ k := Int.pow_pos (by decide)
    show n ≤ _
    have : n * 1 ≤ n * 10 ^ k := Int.mul_le_mul_of_nonneg_left this h0
    omega
  | c :: l, 0, n, _, hl, _ => by simp at hl
  | c :: l, k + 1, n, h, hl, h0 => by
    rw [List.all_cons, Bool.and_eq_true] at h
    have hc := (isDig_iff c).1 h.1
    have := valD_bound l k (10 * n + ((c.toNat : Int) - 48)) h.2 (by simpa using hl) (by omega)
    have hp : (1 : Int) ≤ 10 ^ k := Int.pow_pos (by decide)
    show valD (10 * n + ((c.toNat : Int) - 48)) l ≤ n * 10 ^ (k + 1) + 10 ^ (k + 1) - 1
    have e : (10 : Int) ^ (k + 1) = 10 ^ k * 10 := Int.pow_succ _ _
    rw [e]
    have : ((c.toNat : Int) - 48) * 10 ^ k ≤ 9 * 10 ^ k := Int.mul_le_mul_of_nonneg_right (by omega) (by omega)
    have e2 : (10 * n + ((c.toNat : Int) - 48)) * 10 ^ k = 10 * (n * 10 ^ k) + ((c.toNat : Int) - 48) * 10 ^ k := by rw [Int.add_mul, Int.mul_assoc]
    have e3 : n * (10 ^ k * 10) = 10 * (n * 10 ^ k) := by rw [← Int.mul_assoc, Int.mul_comm]
    omega
theorem valD_six (l : List UInt8) (h : l.all isDig = true) (hl : l.length ≤ 6) : 0 ≤ valD 0 l ∧ valD 0 l ≤ 999999 :=
  ⟨valD_mono l 0 h (Int.le_refl _), by have := valD_bound l 6 0 h hl (Int.le_refl _); simpa using this⟩
/-- All of the first bytes are digits. -/
def digsTo (t : ByteArray) (k : Nat) : Prop := (t.data.toList.take k).all isDig = true
theorem digsTo_succ {t : ByteArray} {k : Nat} (h : digsTo t k) (hk : k < t.size) (hd : isDig t[k] = true) : digsTo t (k + 1) := by
  unfold digsTo at *
  rw [List.take_succ_eq_append_getElem (by simpa using hk), List.all_append, h, Bool.true_and, List.all_cons]
  simp
  exact hd
theorem digsTo_all {t : ByteArray} (h : digsTo t t.size) : t.data.toList.all isDig = true := by
  unfold digsTo at h
  rwa [List.take_of_length_le (by simp)] at h
theorem valD_take (t : ByteArray) (k : Nat) (hk : k < t.size) : valD 0 (t.data.toList.take (k + 1)) = 10 * valD 0 (t.data.toList.take k) + ((t[k].toNat : Int) - 48) := by
  rw [List.take_succ_eq_append_getElem (by simpa using hk), valD_snoc]
  rfl
theorem not_all {t : ByteArray} {k : Nat} (hk : k < t.size) (hd : isDig t[k] = false) : t.data.toList.all isDig = false := by
  rw [List.all_eq_false]
  exact ⟨t[k], by have : t.data.toList[k]'(by simpa using hk) = t[k] := rfl; rw [← this]; exact List.getElem_mem _, by simp [hd]⟩
theorem isDig_false {c : UInt8} (h : (c.toNat : Int) < 48 ∨ 57 < (c.toNat : Int)) : isDig c = false := by
  cases hd : isDig c with
  | false => rfl
  | true => have := (isDig_iff c).1 hd; omega

set_option maxHeartbeats 1000000 in
theorem l1Read_plain (s : ByteArray) (R : Int → Bool → Prop) (w : World) (hmin : s.size ≤ 1 ∨ (1 < s.size ∧ ∃ h : 0 < s.size, ((s[0].toNat : Int) == 45) = false)) (hin : 1 ≤ s.size ∧ s.size ≤ 6)
    (r2 : s.data.toList.all isDig = false → R 0 false)
    (r3 : s.data.toList.all isDig = true → numB (valD 0 s.data.toList) = s → R (valD 0 s.data.toList) true)
    (r4 : s.data.toList.all isDig = true → numB (valD 0 s.data.toList) ≠ s → R 0 false) :
    Calls Tryd.prog 29 #[.string s] w (ReadSome R w) := by
  have R2 := Lib.hid r2; have R3 := Lib.hid r3; have R4 := Lib.hid r4
  clear r2 r3 r4

  have hin6 := hin.2
  have H := l1In_any (s.size : Int) 1 6 w
  rw [show decide ((1 : Int) ≤ s.size ∧ (s.size : Int) ≤ 6) = true by simp; omega] at H
  have H' := Lib.hid H; clear H
  rcases hmin with g | ⟨g, g0, t⟩
  all_goals
    go_enter Tryd.func29, Tryd.ntmps29
    go_wp2_with (go_at_call 24; refine (H'.out).mono ?_; rintro e w' ⟨rfl, rfl⟩)
    go_loop [5, 6] (fun n i => ∃ k : Nat, k ≤ s.size ∧ i = .int .i64 k ∧ n = .int .i64 (valD 0 (s.data.toList.take k)) ∧ Hid (digsTo s k)) (fun _ i => s.size - (intOf i).toNat)
    case atStart => exact ⟨0, Nat.zero_le _, rfl, rfl, rfl⟩
    case round =>
      obtain ⟨k, hk, rfl, rfl, hD⟩ := hrel
      have hv0 := (valD_six (s.data.toList.take k) hD.out (by simp; omega)).1
      have hv1 := (valD_six (s.data.toList.take k) hD.out (by simp; omega)).2
      by_cases hlt : k < s.size
      · have hb : (s[k].toNat : Int) ≤ 255 := by have := s[k].toNat_lt; omega
        have hb0 : 0 ≤ (s[k].toNat : Int) := by omega
        have HV := Lib.hid (valD_take s k hlt)
        by_cases hd : isDig s[k] = true
        · have d1 := ((isDig_iff _).1 hd).1
          have d2 := ((isDig_iff _).1 hd).2
          have HD := Lib.hid (digsTo_succ hD.out hlt hd)
          clear hd hD
          go_wp2
          go_round
          case rel => exact ⟨k + 1, by omega, by go_num, by rw [HV.out], HD.out⟩
          case measure => simp [intOf]; omega
        · have HR := Lib.hid (R2.out (not_all hlt (by simpa using hd)))
          have hcase : (s[k].toNat : Int) < 48 ∨ (48 ≤ (s[k].toNat : Int) ∧ 57 < (s[k].toNat : Int)) := by
            rcases Int.lt_or_le (s[k].toNat : Int) 48 with g | g
            · exact .inl g
            · rcases Int.lt_or_le 57 (s[k].toNat : Int) with g' | g'
              · exact .inr ⟨g, g'⟩
              · exact absurd ((isDig_iff _).2 ⟨g, g'⟩) hd
          clear hd hD
          rcases hcase with g | ⟨g, g'⟩
          all_goals
            go_wp2
            go_ret2
            exact ⟨0, false, rfl, HR.out, 0, rfl⟩
      · obtain rfl : k = s.size := by omega
        have hall := digsTo_all hD.out
        have hfull : s.data.toList.take s.size = s.data.toList := List.take_of_length_le (by simp)
        have hz := valD_six s.data.toList hall (by simpa using hin6)
        rw [hfull] at hv0 hv1 ⊢
        by_cases he : numB (valD 0 s.data.toList) = s
        · have HR := Lib.hid (R3.out hall he)
          have hN : ∀ w, Calls Tryd.prog 25 #[.int .i64 (valD 0 s.data.toList)] w fun e w' => e = .returned (.string s) ∧ ∃ m, w' = w.drewN m := fun w => by
            have := l1Num_any (valD 0 s.data.toList) w (by omega) (by omega)
            rw [show (⟨(Lib.itoa (valD 0 s.data.toList)).toArray⟩ : ByteArray) = s from he] at this
            exact this
          have HN := Lib.hid hN
          clear hD hall hfull hN he R3 R4
          generalize valD 0 s.data.toList = vv at *
          go_wp2_with (go_at_call 25; refine (HN.out _).mono ?_; rintro e w' ⟨rfl, m, rfl⟩)
          go_ret2
          exact ⟨_, true, rfl, HR.out, _, rfl⟩
        · have HR := Lib.hid (R4.out hall he)
          have hne := bytes_ne he
          have hN : ∀ w, Calls Tryd.prog 25 #[.int .i64 (valD 0 s.data.toList)] w fun e w' => e = .returned (.string (numB (valD 0 s.data.toList))) ∧ ∃ m, w' = w.drewN m := fun w => l1Num_any (valD 0 s.data.toList) w (by omega) (by omega)
          have HN := Lib.hid hN
          clear hD hall hfull hN he R3 R4
          generalize valD 0 s.data.toList = vv at *
          go_wp2_with (go_at_call 25; refine (HN.out _).mono ?_; rintro e w' ⟨rfl, m, rfl⟩)
          go_ret2
          exact ⟨0, false, rfl, HR.out, _, rfl⟩

set_option maxHeartbeats 1000000 in
theorem l1Read_neg (s T : ByteArray) (R : Int → Bool → Prop) (w : World) (hT : s.extract 1 s.size = T) (g : 1 < s.size) (g0 : 0 < s.size) (t : ((s[0].toNat : Int) == 45) = true) (hs : T.size < s.size) (hin : 1 ≤ s.size - 1 ∧ s.size - 1 ≤ 6) (hin6 : T.size ≤ 6)
    (r2 : T.data.toList.all isDig = false → R 0 false)
    (r3 : T.data.toList.all isDig = true → numB (-valD 0 T.data.toList) = s → R (-valD 0 T.data.toList) true)
    (r4 : T.data.toList.all isDig = true → numB (-valD 0 T.data.toList) ≠ s → R 0 false) :
    Calls Tryd.prog 29 #[.string s] w (ReadSome R w) := by
  have R2 := Lib.hid r2; have R3 := Lib.hid r3; have R4 := Lib.hid r4
  have HT := Lib.hid hT
  clear r2 r3 r4 hT
  have H := l1In_any ((s.size - 1 : Nat) : Int) 1 6 w
  rw [show decide ((1 : Int) ≤ ((s.size - 1 : Nat) : Int) ∧ ((s.size - 1 : Nat) : Int) ≤ 6) = true by simp only [decide_eq_true_eq]; omega] at H
  have H' := Lib.hid H; clear H
  go_enter Tryd.func29, Tryd.ntmps29
  go_wp2_with (go_at_call 24; rw [HT.out]; refine (H'.out).mono ?_; rintro e w' ⟨rfl, rfl⟩)
  go_loop [5, 6] (fun n i => ∃ k : Nat, k ≤ T.size ∧ i = .int .i64 k ∧ n = .int .i64 (valD 0 (T.data.toList.take k)) ∧ Hid (digsTo T k)) (fun _ i => T.size - (intOf i).toNat)
  case atStart => exact ⟨0, Nat.zero_le _, rfl, rfl, rfl⟩
  case round =>
    obtain ⟨k, hk, rfl, rfl, hD⟩ := hrel
    have hv0 := (valD_six (T.data.toList.take k) hD.out (by simp; omega)).1
    have hv1 := (valD_six (T.data.toList.take k) hD.out (by simp; omega)).2
    by_cases hlt : k < T.size
    · have hb : (T[k].toNat : Int) ≤ 255 := by have := T[k].toNat_lt; omega
      have hb0 : 0 ≤ (T[k].toNat : Int) := by omega
      have HV := Lib.hid (valD_take T k hlt)
      by_cases hd : isDig T[k] = true
      · have d1 := ((isDig_iff _).1 hd).1
        have d2 := ((isDig_iff _).1 hd).2
        have HD := Lib.hid (digsTo_succ hD.out hlt hd)
        clear hd hD
        go_wp2
        go_round
        case rel => exact ⟨k + 1, by omega, by go_num, by rw [HV.out], HD.out⟩
        case measure => simp [intOf]; omega
      · have HR := Lib.hid (R2.out (not_all hlt (by simpa using hd)))
        have hcase : (T[k].toNat : Int) < 48 ∨ (48 ≤ (T[k].toNat : Int) ∧ 57 < (T[k].toNat : Int)) := by
          rcases Int.lt_or_le (T[k].toNat : Int) 48 with g | g
          · exact .inl g
          · rcases Int.lt_or_le 57 (T[k].toNat : Int) with g' | g'
            · exact .inr ⟨g, g'⟩
            · exact absurd ((isDig_iff _).2 ⟨g, g'⟩) hd
        clear hd hD
        rcases hcase with g | ⟨g, g'⟩
        all_goals
          go_wp2
          go_ret2
          exact ⟨0, false, rfl, HR.out, 0, rfl⟩
    · obtain rfl : k = T.size := by omega
      have hall := digsTo_all hD.out
      have hfull : T.data.toList.take T.size = T.data.toList := List.take_of_length_le (by simp)
      have hz := valD_six T.data.toList hall (by simpa using hin6)
      rw [hfull] at hv0 hv1 ⊢
      by_cases he : numB (-valD 0 T.data.toList) = s
      · have HR := Lib.hid (R3.out hall he)
        have hN : ∀ w, Calls Tryd.prog 25 #[.int .i64 (-valD 0 T.data.toList)] w fun e w' => e = .returned (.string s) ∧ ∃ m, w' = w.drewN m := fun w => by
          have := l1Num_any (-valD 0 T.data.toList) w (by omega) (by omega)
          rw [show (⟨(Lib.itoa (-valD 0 T.data.toList)).toArray⟩ : ByteArray) = s from he] at this
          exact this
        have HN := Lib.hid hN
        clear hD hall hfull hN he R3 R4
        generalize valD 0 T.data.toList = vv at *
        go_wp2_with (go_at_call 25; refine (HN.out _).mono ?_; rintro e w' ⟨rfl, m, rfl⟩)
        go_ret2
        exact ⟨_, true, rfl, HR.out, _, rfl⟩
      · have HR := Lib.hid (R4.out hall he)
        have hne := bytes_ne he
        have hN : ∀ w, Calls Tryd.prog 25 #[.int .i64 (-valD 0 T.data.toList)] w fun e w' => e = .returned (.string (numB (-valD 0 T.data.toList))) ∧ ∃ m, w' = w.drewN m := fun w => l1Num_any (-valD 0 T.data.toList) w (by omega) (by omega)
        have HN := Lib.hid hN
        clear hD hall hfull hN he R3 R4
        generalize valD 0 T.data.toList = vv at *
        go_wp2_with (go_at_call 25; refine (HN.out _).mono ?_; rintro e w' ⟨rfl, m, rfl⟩)
        go_ret2
        exact ⟨0, false, rfl, HR.out, _, rfl⟩
end Go.Proofs.YteflgljifbcelaaDoor
