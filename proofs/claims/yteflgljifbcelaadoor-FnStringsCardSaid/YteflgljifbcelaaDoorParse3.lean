/- ParseInt of the model: the two ways. -/
import Derived.Test.YteflgljifbcelaaDoorParse2
namespace Go.Proofs.YteflgljifbcelaaDoor
open Go.RowKit

theorem l1Read_out0 (s : ByteArray) (R : Int → Bool → Prop) (w : World) (hm : s.size ≤ maxLen) (hmin : s.size ≤ 0 ∨ (6 < s.size ∧ ∃ h : 0 < s.size, ((s[0].toNat : Int) == 45) = false)) (hR : R 0 false) :
    Calls Tryd.prog 29 #[.string s] w (ReadSome R w) := by
  unfold maxLen at hm
  have HR := Lib.hid hR
  clear hR
  have H := l1In_any (s.size : Int) 1 6 w
  rw [show decide ((1 : Int) ≤ s.size ∧ (s.size : Int) ≤ 6) = false by simp only [decide_eq_false_iff_not]; omega] at H
  have H' := Lib.hid H; clear H
  rcases hmin with g | ⟨g, g0, t⟩
  all_goals
    go_enter Tryd.func29, Tryd.ntmps29
    go_wp2_with (go_at_call 24; refine (H'.out).mono ?_; rintro e w' ⟨rfl, rfl⟩)
    go_ret2
    exact ⟨0, false, rfl, HR.out, 0, rfl⟩
theorem l1Read_out1 (s : ByteArray) (R : Int → Bool → Prop) (w : World) (hm : s.size ≤ maxLen) (g : 7 < s.size) (g0 : 0 < s.size) (t : ((s[0].toNat : Int) == 45) = true) (hR : R 0 false) :
    Calls Tryd.prog 29 #[.string s] w (ReadSome R w) := by
  unfold maxLen at hm
  have HR := Lib.hid hR
  clear hR
  have H := l1In_any ((s.size - 1 : Nat) : Int) 1 6 w
  rw [show decide ((1 : Int) ≤ ((s.size - 1 : Nat) : Int) ∧ ((s.size - 1 : Nat) : Int) ≤ 6) = false by simp only [decide_eq_false_iff_not]; omega] at H
  have H' := Lib.hid H; clear H
  go_enter Tryd.func29, Tryd.ntmps29
  go_wp2_with (go_at_call 24; refine (H'.out).mono ?_; rintro e w' ⟨rfl, rfl⟩)
  go_ret2
  exact ⟨0, false, rfl, HR.out, 0, rfl⟩

theorem ext_one (s : ByteArray) : (s.extract 1 s.size).data.toList = s.data.toList.drop 1 := by
  rw [Lib.extract_data, List.take_of_length_le (by simp)]
theorem head_of {s : ByteArray} {c : UInt8} {l : List UInt8} (h : s.data.toList = c :: l) (h0 : 0 < s.size) : s[0] = c := by
  have : s.data.toList[0]? = some c := by rw [h]; rfl
  have e : s.data.toList[0]? = some s[0] := by rw [List.getElem?_eq_getElem (by simpa using h0)]; rfl
  exact Option.some.inj (e.symm.trans this)
theorem numB_list (n : Int) : (numB n).data.toList = Lib.itoa n := by unfold numB; rw [toList_mk]
theorem numB_size (n : Int) : (numB n).size = (Lib.itoa n).length := by rw [← numB_list]; simp
theorem dec_six {u : Nat} (h : u ≤ 999999) : 1 ≤ (Lib.decDigits u).length ∧ (Lib.decDigits u).length ≤ 6 := by
  rw [Lib.decDigits_length]; exact ⟨Lib.nDigits_pos _, nDigits_le 6 _ (by omega) (by omega)⟩

theorem l1Read_yes (n : Int) (w : World) (h : inDec n) :
    Calls Tryd.prog 29 #[.string (numB n)] w fun e w' => e = .returned (.tuple #[.int .i64 n, .bool true]) ∧ ∃ m, w' = w.drewN m := by
  obtain ⟨h0, h1⟩ := h
  have fin : ∀ {e w'}, ReadSome (fun a b => a = n ∧ b = true) w e w' → e = .returned (.tuple #[.int .i64 n, .bool true]) ∧ ∃ m, w' = w.drewN m := by
    rintro e w' ⟨a, b, he, ⟨rfl, rfl⟩, hw⟩; exact ⟨he, hw⟩
  by_cases hn : n < 0
  · have hl : (numB n).data.toList = 45 :: Lib.decDigits n.natAbs := by rw [numB_list]; unfold Lib.itoa; rw [if_pos hn]
    have hd := dec_six (u := n.natAbs) (by omega)
    have hs : (numB n).size = (Lib.decDigits n.natAbs).length + 1 := by rw [← size_toList, hl]; simp
    have hT : ((numB n).extract 1 (numB n).size).data.toList = Lib.decDigits n.natAbs := by rw [ext_one, hl]; rfl
    have hTs : ((numB n).extract 1 (numB n).size).size = (Lib.decDigits n.natAbs).length := by rw [← size_toList, hT]
    refine (l1Read_neg (numB n) _ _ w rfl (by omega) (by omega) (by rw [head_of hl (by omega)]; rfl) (by omega) (by omega) (by omega) ?_ ?_ ?_).mono fun _ _ => fin
    · intro hf; rw [hT, all_dec] at hf; cases hf
    · intro _ _; rw [hT, valD_dec]; exact ⟨by omega, rfl⟩
    · intro _ hne; rw [hT, valD_dec] at hne; exact absurd (by congr 1; omega) hne
  · have hl : (numB n).data.toList = Lib.decDigits n.toNat := by rw [numB_list]; unfold Lib.itoa; rw [if_neg hn]
    have hd := dec_six (u := n.toNat) (by omega)
    have hs : (numB n).size = (Lib.decDigits n.toNat).length := by rw [← size_toList, hl]
    obtain ⟨c, l, hc, hdig⟩ := dec_ne n.toNat
    have hc45 : (c.toNat : Int) ≠ 45 := by have := ((isDig_iff c).1 hdig).1; omega
    refine (l1Read_plain (numB n) _ w ?_ (by omega) ?_ ?_ ?_).mono fun _ _ => fin
    · rcases Nat.lt_or_ge 1 (numB n).size with g | g
      · exact .inr ⟨g, by omega, by rw [head_of (hl.trans hc) (by omega), beq_eq_false_iff_ne]; exact hc45⟩
      · exact .inl g
    · intro hf; rw [hl, all_dec] at hf; cases hf
    · intro _ _; rw [hl, valD_dec]; exact ⟨by omega, rfl⟩
    · intro _ hne; rw [hl, valD_dec] at hne; exact absurd (by congr 1; omega) hne

theorem l1Read_no (s : ByteArray) (w : World) (hm : s.size ≤ maxLen) (h : noNum s) :
    Calls Tryd.prog 29 #[.string s] w fun e w' => e = .returned (.tuple #[.int .i64 0, .bool false]) ∧ ∃ m, w' = w.drewN m := by
  have fin : ∀ {e w'}, ReadSome (fun a b => a = 0 ∧ b = false) w e w' → e = .returned (.tuple #[.int .i64 0, .bool false]) ∧ ∃ m, w' = w.drewN m := by
    rintro e w' ⟨a, b, he, ⟨rfl, rfl⟩, hw⟩; exact ⟨he, hw⟩
  by_cases h0 : s.size ≤ 0
  · exact (l1Read_out0 s _ w hm (.inl h0) ⟨rfl, rfl⟩).mono fun _ _ => fin
  · have g0 : 0 < s.size := by omega
    have plain : (s.size ≤ 1 ∨ (1 < s.size ∧ ∃ h : 0 < s.size, ((s[0].toNat : Int) == 45) = false)) → s.size ≤ 6 →
        Calls Tryd.prog 29 #[.string s] w fun e w' => e = .returned (.tuple #[.int .i64 0, .bool false]) ∧ ∃ m, w' = w.drewN m := fun g g6 =>
      (l1Read_plain s _ w g ⟨g0, g6⟩ (fun _ => ⟨rfl, rfl⟩) (fun ha he => absurd he (h _ (by have := valD_six _ ha (by simpa using g6); unfold inDec; omega))) (fun _ _ => ⟨rfl, rfl⟩)).mono fun _ _ => fin
    cases t : ((s[0].toNat : Int) == 45) with
    | false =>
      by_cases g6 : s.size ≤ 6
      · refine plain ?_ g6
        rcases Nat.lt_or_ge 1 s.size with g | g
        · exact .inr ⟨g, g0, t⟩
        · exact .inl g
      · exact (l1Read_out0 s _ w hm (.inr ⟨by omega, g0, t⟩) ⟨rfl, rfl⟩).mono fun _ _ => fin
    | true =>
      rcases Nat.lt_or_ge 1 s.size with g | g
      · have hTs : (s.extract 1 s.size).size = s.size - 1 := by rw [← size_toList, ext_one]; simp
        by_cases g7 : s.size ≤ 7
        · exact (l1Read_neg s _ _ w rfl g g0 t (by omega) (by omega) (by omega) (fun _ => ⟨rfl, rfl⟩) (fun ha he => absurd he (h _ (by have := valD_six _ ha (by rw [size_toList]; omega); unfold inDec; omega))) (fun _ _ => ⟨rfl, rfl⟩)).mono fun _ _ => fin
        · exact (l1Read_out1 s _ w hm (by omega) g0 t ⟨rfl, rfl⟩).mono fun _ _ => fin
      · exact plain (.inl g) (by omega)

theorem spec_Parse_yes (n : Int) (w : World) (h : inDec n) :
    Calls Tryd.prog 14 #[.string (numB n)] w fun e w' => e = .returned (.tuple #[.int .i64 n, .bool true]) ∧ ∃ m, w' = w.drewN m := by
  have H := Lib.hid h
  clear h
  go_enter Tryd.func14, Tryd.ntmps14
  go_wp2_with (go_at_call 29; refine (l1Read_yes _ _ H.out).mono ?_; rintro e w' ⟨rfl, m, rfl⟩)
  go_ret2
  exact ⟨rfl, _, rfl⟩
theorem spec_Parse_no (s : ByteArray) (w : World) (hm : s.size ≤ maxLen) (h : noNum s) :
    Calls Tryd.prog 14 #[.string s] w fun e w' => e = .returned (.tuple #[.int .i64 0, .bool false]) ∧ ∃ m, w' = w.drewN m := by
  have H := Lib.hid h
  clear h
  go_enter Tryd.func14, Tryd.ntmps14
  go_wp2_with (go_at_call 29; refine (l1Read_no _ _ hm H.out).mono ?_; rintro e w' ⟨rfl, m, rfl⟩)
  go_ret2
  exact ⟨rfl, _, rfl⟩
end Go.Proofs.YteflgljifbcelaaDoor
