/- ParseInt of the program and of the model: the number whose numeral the text is, if there is one. -/
import Derived.Test.YteflgljifbcelaaDoorFmt
import Derived.Test.YteflgljifbcelaaDoorVer
namespace Go.Proofs.YteflgljifbcelaaDoor
open Go.RowKit

/-- Is a byte a decimal digit? -/
def isDig (c : UInt8) : Bool := 48 ≤ c && c ≤ 57
theorem isDig_iff (c : UInt8) : isDig c = true ↔ 48 ≤ (c.toNat : Int) ∧ (c.toNat : Int) ≤ 57 := by
  unfold isDig
  simp [UInt8.le_iff_toNat_le]
  omega
/-- The number that digits show. -/
def valD (n : Int) (l : List UInt8) : Int := l.foldl (fun h c => 10 * h + ((c.toNat : Int) - 48)) n
theorem valD_snoc (n : Int) (l : List UInt8) (c : UInt8) : valD n (l ++ [c]) = 10 * valD n l + ((c.toNat : Int) - 48) := by unfold valD; simp
theorem dig_nat {i : Nat} (h : i < 10) : (UInt8.ofNat (48 + i)).toNat = 48 + i := by
  rw [UInt8.toNat_ofNat']; omega
theorem dig_is {i : Nat} (h : i < 10) : isDig (UInt8.ofNat (48 + i)) = true := by
  rw [isDig_iff, dig_nat h]; omega
theorem all_dec (u : Nat) : (Lib.decDigits u).all isDig = true := by
  induction u using Nat.strongRecOn with
  | _ u ih =>
    by_cases h : u < 10
    · rw [Lib.decDigits_one h, List.all_cons, dig_is h]; rfl
    · rw [Lib.decDigits, dif_neg h, List.all_append, ih (u / 10) (by omega), List.all_cons, dig_is (by omega)]; rfl
theorem valD_dec (u : Nat) : valD 0 (Lib.decDigits u) = u := by
  induction u using Nat.strongRecOn with
  | _ u ih =>
    by_cases h : u < 10
    · rw [Lib.decDigits_one h]
      show 10 * 0 + (((UInt8.ofNat (48 + u)).toNat : Int) - 48) = u
      rw [dig_nat h]; omega
    · rw [Lib.decDigits, dif_neg h, valD_snoc, ih (u / 10) (by omega), dig_nat (by omega)]
      omega
theorem dec_ne (u : Nat) : ∃ c l, Lib.decDigits u = c :: l ∧ isDig c = true := by
  cases h : Lib.decDigits u with
  | nil => have := Lib.decDigits_length u; rw [h] at this; have := Lib.nDigits_pos u; simp at *; omega
  | cons c l => have := all_dec u; rw [h] at this; simp at this; exact ⟨c, l, rfl, this.1⟩

/-- What leadingNumber makes of the bytes: its loop, round by round. -/
def leadGo : Bool → Int → Int → List UInt8 → Int
  | _, n, sg, [] => sg * n
  | first, n, sg, c :: l =>
    if first && c == 45 then leadGo false n (-1) l
    else if isDig c && decide (n ≤ 999999) then leadGo false (10 * n + ((c.toNat : Int) - 48)) sg l
    else sg * n
theorem valD_mono : ∀ (l : List UInt8) (n : Int), l.all isDig = true → 0 ≤ n → n ≤ valD n l
  | [], n, _, _ => Int.le_refl _
  | d :: l, n, hl, hn => by
    rw [List.all_cons, Bool.and_eq_true] at hl
    have hd := (isDig_iff d).1 hl.1
    have := valD_mono l (10 * n + ((d.toNat : Int) - 48)) hl.2 (by omega)
    show n ≤ valD (10 * n + ((d.toNat : Int) - 48)) l
    omega
theorem dig_not_minus {c : UInt8} (h : isDig c = true) : (c == 45) = false := by
  rw [beq_eq_false_iff_ne]; rintro rfl; revert h; decide
theorem leadGo_digits (sg : Int) : ∀ (l : List UInt8) (n : Int) (first : Bool), l.all isDig = true → 0 ≤ n → valD n l ≤ 999999 → leadGo first n sg l = sg * valD n l
  | [], _, _, _, _, _ => rfl
  | c :: l, n, first, h, h0, hv => by
    rw [List.all_cons, Bool.and_eq_true] at h
    have hc := (isDig_iff c).1 h.1
    have hv' : valD (10 * n + ((c.toNat : Int) - 48)) l ≤ 999999 := hv
    have hm := valD_mono l _ h.2 (by omega : 0 ≤ 10 * n + ((c.toNat : Int) - 48))
    have hn : n ≤ 999999 := by omega
    unfold leadGo
    rw [dig_not_minus h.1, Bool.and_false, if_neg (by simp), h.1, if_pos (by simpa using hn)]
    exact leadGo_digits sg l _ false h.2 (by omega) hv'
theorem leadGo_itoa (n : Int) (h0 : -999999 ≤ n) (h1 : n ≤ 999999) : leadGo true 0 1 (Lib.itoa n) = n := by
  unfold Lib.itoa
  by_cases h : n < 0
  · rw [if_pos h]
    unfold leadGo
    rw [if_pos (by decide), leadGo_digits (-1) _ 0 false (all_dec _) (Int.le_refl _) (by rw [valD_dec]; omega), valD_dec]
    omega
  · rw [if_neg h, leadGo_digits 1 _ 0 true (all_dec _) (Int.le_refl _) (by rw [valD_dec]; omega), valD_dec]
    omega

theorem leadGo_step (s : ByteArray) (k : Nat) (n sg : Int) (first : Bool) (h : k < s.size) :
    leadGo first n sg (s.data.toList.drop k) = if first && s[k] == 45 then leadGo false n (-1) (s.data.toList.drop (k + 1))
      else if isDig s[k] && decide (n ≤ 999999) then leadGo false (10 * n + ((s[k].toNat : Int) - 48)) sg (s.data.toList.drop (k + 1)) else sg * n := by
  rw [List.drop_eq_getElem_cons (by simpa using h)]
  rfl

def leadRel (s : ByteArray) (k : Nat) (n sg : Int) : Prop := leadGo (k == 0) n sg (s.data.toList.drop k) = leadGo true 0 1 s.data.toList
theorem leadRel_minus {s : ByteArray} {k : Nat} {n sg : Int} (h : leadRel s k n sg) (hk : k < s.size) (h0 : k = 0) (hc : s[k] = 45) : leadRel s (k + 1) n (-1) := by
  unfold leadRel at *
  rw [← h, leadGo_step s k n sg _ hk, if_pos (by simp [h0]; simpa [h0] using hc)]
  rfl
theorem leadRel_digit {s : ByteArray} {k : Nat} {n sg : Int} (h : leadRel s k n sg) (hk : k < s.size) (hc : ¬ (k = 0 ∧ s[k] = 45)) (hd : isDig s[k] = true) (hn : n ≤ 999999) : leadRel s (k + 1) (10 * n + ((s[k].toNat : Int) - 48)) sg := by
  unfold leadRel at *
  rw [← h, leadGo_step s k n sg _ hk, if_neg (by simpa using hc), if_pos (by simp [hd, hn])]
  rfl
theorem leadRel_stop {s : ByteArray} {k : Nat} {n sg : Int} (h : leadRel s k n sg) (hk : k < s.size) (hc : ¬ (k = 0 ∧ s[k] = 45)) (hd : ¬ (isDig s[k] = true ∧ n ≤ 999999)) : leadGo true 0 1 s.data.toList = sg * n := by
  unfold leadRel at *
  rw [← h, leadGo_step s k n sg _ hk, if_neg (by simpa using hc), if_neg (by simpa using hd)]
theorem leadRel_end {s : ByteArray} {k : Nat} {n sg : Int} (h : leadRel s k n sg) (hk : s.size ≤ k) : leadGo true 0 1 s.data.toList = sg * n := by
  unfold leadRel at *
  rw [← h, List.drop_of_length_le (by simpa using hk)]
  rfl
theorem ret_int {k : IntKind} {a b : Int} (h : a = b) : Ending.returned (.int k a) = .returned (.int k b) := by rw [h]

theorem leadingNumber_any (s : ByteArray) (w : World) (hs : s.size ≤ maxLen) :
    Calls Tryd.prog 28 #[.string s] w fun e w' => e = .returned (.int .i64 (leadGo true 0 1 s.data.toList)) ∧ w = w' := by
  unfold maxLen at hs
  go_enter Tryd.func28, Tryd.ntmps28
  go_wp2
  go_step3
  go_wp2
  go_step3
  go_wp2
  go_loop [3, 4, 9] (fun n sg i => ∃ (k : Nat) (n0 s0 : Int), k ≤ s.size ∧ i = .int .i64 k ∧ n = .int .i64 n0 ∧ sg = .int .i64 s0 ∧ 0 ≤ n0 ∧ n0 ≤ 10000000 ∧ Hid (s0 = 1 ∨ s0 = -1) ∧ Hid (leadRel s k n0 s0)) (fun _ _ i => s.size - (intOf i).toNat)
  case atStart => exact ⟨0, 0, 1, Nat.zero_le _, rfl, rfl, rfl, by omega, by omega, .inl rfl, rfl⟩
  case round =>
    obtain ⟨k, n0, s0, hk, rfl, rfl, rfl, h0, h1, hsg, hR⟩ := hrel
    by_cases hlt : k < s.size
    · have hb : (s[k].toNat : Int) ≤ 255 := by have := s[k].toNat_lt; omega
      have hb0 : 0 ≤ (s[k].toNat : Int) := by omega
      by_cases hA : k = 0 ∧ s[k] = 45
      · have t1 : ((k : Int) == 0) = true := by simp [hA.1]
        have t2 : ((s[k].toNat : Int) == 45) = true := by rw [hA.2]; rfl
        have HR := Lib.hid (leadRel_minus hR.out hlt hA.1 hA.2)
        clear hR hA
        go_wp2
        go_round
        case rel => exact ⟨k + 1, n0, -1, by omega, by go_num, rfl, rfl, h0, h1, .inr rfl, HR.out⟩
        case measure => simp [intOf]; omega
      · by_cases hB : isDig s[k] = true ∧ n0 ≤ 999999
        · have HR := Lib.hid (leadRel_digit hR.out hlt hA hB.1 hB.2)
          have d1 := ((isDig_iff _).1 hB.1).1
          have d2 := ((isDig_iff _).1 hB.1).2
          have d3 := hB.2
          have d4 : ((s[k].toNat : Int) == 45) = false := by rw [beq_eq_false_iff_ne]; omega
          clear hR hA hB
          by_cases hz : k = 0
          · have t1 : ((k : Int) == 0) = true := by simp [hz]
            clear hz
            go_wp2
            go_round
            case rel => exact ⟨k + 1, _, s0, by omega, by go_num, rfl, rfl, by omega, by omega, hsg, HR.out⟩
            case measure => simp [intOf]; omega
          · have t1 : ((k : Int) == 0) = false := by rw [beq_eq_false_iff_ne]; omega
            clear hz
            go_wp2
            go_round
            case rel => exact ⟨k + 1, _, s0, by omega, by go_num, rfl, rfl, by omega, by omega, hsg, HR.out⟩
            case measure => simp [intOf]; omega
        · have HR := leadRel_stop hR.out hlt hA hB
          have hcase : (s[k].toNat : Int) < 48 ∨ (57 < (s[k].toNat : Int)) ∨ (48 ≤ (s[k].toNat : Int) ∧ (s[k].toNat : Int) ≤ 57 ∧ 999999 < n0) := by
            rcases Int.lt_or_le (s[k].toNat : Int) 48 with g | g
            · exact .inl g
            · rcases Int.lt_or_le 57 (s[k].toNat : Int) with g' | g'
              · exact .inr (.inl g')
              · refine .inr (.inr ⟨g, g', ?_⟩)
                rcases Int.lt_or_le 999999 n0 with g'' | g''
                · exact g''
                · exact absurd ⟨(isDig_iff _).2 ⟨g, g'⟩, g''⟩ hB
          have htest : (((k : Int) == 0) = false) ∨ (((k : Int) == 0) = true ∧ ((s[k].toNat : Int) == 45) = false) := by
            by_cases hz : k = 0
            · refine .inr ⟨by simp [hz], ?_⟩
              rw [beq_eq_false_iff_ne]; intro e
              exact hA ⟨hz, UInt8.toNat_inj.1 (by show _ = 45; omega)⟩
            · exact .inl (by rw [beq_eq_false_iff_ne]; omega)
          have hv : s0 * n0 = n0 ∨ s0 * n0 = -n0 := by rcases hsg.out with rfl | rfl <;> omega
          rcases hsg.out with rfl | rfl
          all_goals
            have HR' := Lib.hid HR
            clear hR hA hB HR hv hsg
            rcases hcase with g | g | ⟨g1, g2, g3⟩
            all_goals
              rcases htest with t1 | ⟨t1, t2⟩
              all_goals
                go_wp2
                go_ret
                exact ⟨ret_int (by rw [HR'.out]; omega), rfl⟩
    · have HR := leadRel_end hR.out (by omega)
      rcases hsg.out with rfl | rfl
      all_goals
        have HR' := Lib.hid HR
        clear hR HR hsg
        go_wp2
        go_ret
        exact ⟨ret_int (by rw [HR'.out]; omega), rfl⟩
end Go.Proofs.YteflgljifbcelaaDoor
