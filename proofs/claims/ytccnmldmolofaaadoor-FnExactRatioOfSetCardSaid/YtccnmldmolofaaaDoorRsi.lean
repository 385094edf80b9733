/- Strictly ascending lists of jobs: the model's and the program's. -/
import Derived.Test.YtccnmldmolofaaaDoorRis
import Derived.Test.YtccnmldmolofaaaDoorMbr
import Derived.Test.YtccnmldmolofaaaDoorSegH
import Derived.Test.YtccnmldmolofaaaDoorGood
namespace Go.Proofs.YtccnmldmolofaaaDoor
open Go.RowKit
section
variable (B : Option Addr) (d n : Nat) (s : List Int) (w : World) (hq : Row w B (ic s)) (hm : s.length ≤ 10000000)
include hq hm
set_option maxRecDepth 100000 in
set_option maxHeartbeats 1000000 in
theorem l1Rising_any : Calls Tryd.prog 47 #[.slice B s.length d, .int .i64 0, .int .i64 ((n : Int) - 1)] w fun e w' => e = .returned (.bool (risL n s)) ∧ ∃ m, w' = w.drewN m := by
  have HB : Hid (∀ k, risOk n s k = false → k < s.length → risL n s = false) := fun k h hk => risTo_bad hk h
  have HE : Hid (risL n s = risTo n s s.length) := rfl
  have H0 : Hid (risTo n s 0 = true) := rfl
  go_enter Tryd.func47, Tryd.ntmps47
  go_wp2
  go_loopw [7] (fun i wr => ∃ k m : Nat, k ≤ s.length ∧ i = .int .i64 (k : Int) ∧ wr = w.drewN m ∧ Hid (risTo n s k = true)) (fun i _ => s.length - (intOf i).toNat)
  case atStart => exact ⟨0, 0, Nat.zero_le _, rfl, rfl, H0⟩
  case round =>
    obtain ⟨k, m, hk, rfl, rfl, HS⟩ := hrel
    clear H0
    by_cases hlt : k < s.length
    · have hk0 : (0 : Int) ≤ k := by omega
      have hk1 : (k : Int) < s.length := by omega
      obtain ⟨ad, hB, hc⟩ := hq.int hlt
      subst hB
      have hin : inB s[k] 0 ((n : Int) - 1) = decide (0 ≤ s[k] ∧ s[k] < n) := by
        unfold inB; rw [decide_eq_decide]; omega
      by_cases hr : 0 ≤ s[k] ∧ s[k] < n
      · rw [decide_eq_true hr] at hin
        cases k with
        | zero =>
          have HN := Lib.hid (risL_step HS.out (risOk_first hlt hr))
          have hc0 : w.cell? ad = some (.int .i64 s[0]) := by simpa [Addr.add] using hc
          clear HS hc
          generalize s[0] = x at *
          go_wp2
          go_quiet ((go_at_call 74; (first | exact Calls.quiet_of ((l1In_any _ _ _ _).mono fun _ _ ⟨he, hw⟩ => ⟨by rw [he, hin], 0, hw.symm⟩) | exact quiet_same ((l1In_any _ _ _ _).mono fun _ _ ⟨he, hw⟩ => ⟨by rw [he, hin], hw⟩))))
          go_wp2
          go_roundw
          case rel => exact ⟨1, _, by omega, by go_num, rfl, HN⟩
          case measure => simp [intOf]; omega
        | succ k =>
          obtain ⟨ad', hB', hc'⟩ := hq.int (show k < s.length by omega)
          injection hB' with hB'
          subst hB'
          by_cases hlt2 : s[k]'(by omega) < s[k + 1]
          · have HN := Lib.hid (risL_step HS.out (risOk_next hlt hr hlt2))
            clear HS
            generalize s[k + 1] = x at *
            generalize s[k]'(by omega) = y at *
            have hsub : IntKind.i64.wrap (((k + 1 : Nat) : Int) - 1) = (k : Int) := by rw [IntWalk.i64_in _ (by omega)]; omega
            have hkpos : 0 < k + 1 := by omega
            have hkm0 : (0 : Int) ≤ k := by omega
            have hkm1 : (k : Int) < s.length := by omega
            generalize k + 1 = kk at *
            go_wp2
            go_quiet ((go_at_call 74; (first | exact Calls.quiet_of ((l1In_any _ _ _ _).mono fun _ _ ⟨he, hw⟩ => ⟨by rw [he, hin], 0, hw.symm⟩) | exact quiet_same ((l1In_any _ _ _ _).mono fun _ _ ⟨he, hw⟩ => ⟨by rw [he, hin], hw⟩))))
            go_wp2
            go_roundw
            case rel => exact ⟨kk + 1, _, by omega, by go_num, rfl, HN⟩
            case measure => simp [intOf]; omega
          · have HF := Lib.hid (HB.out (k + 1) (risOk_back hlt (by omega)) hlt)
            clear HS
            generalize s[k + 1] = x at *
            generalize s[k]'(by omega) = y at *
            have hsub : IntKind.i64.wrap (((k + 1 : Nat) : Int) - 1) = (k : Int) := by rw [IntWalk.i64_in _ (by omega)]; omega
            have hkpos : 0 < k + 1 := by omega
            have hkm0 : (0 : Int) ≤ k := by omega
            have hkm1 : (k : Int) < s.length := by omega
            generalize k + 1 = kk at *
            go_wp2
            go_quiet ((go_at_call 74; (first | exact Calls.quiet_of ((l1In_any _ _ _ _).mono fun _ _ ⟨he, hw⟩ => ⟨by rw [he, hin], 0, hw.symm⟩) | exact quiet_same ((l1In_any _ _ _ _).mono fun _ _ ⟨he, hw⟩ => ⟨by rw [he, hin], hw⟩))))
            go_wp2
            go_ret
            exact ⟨by rw [HF.out]; rfl, _, World.drewN_drewN _ _ _⟩
      · rw [decide_eq_false hr] at hin
        have HF := Lib.hid (HB.out k (risOk_bad hlt hr) hlt)
        clear HS
        generalize s[k] = x at *
        go_wp2
        go_quiet ((go_at_call 74; (first | exact Calls.quiet_of ((l1In_any _ _ _ _).mono fun _ _ ⟨he, hw⟩ => ⟨by rw [he, hin], 0, hw.symm⟩) | exact quiet_same ((l1In_any _ _ _ _).mono fun _ _ ⟨he, hw⟩ => ⟨by rw [he, hin], hw⟩))))
        go_wp2
        go_ret
        exact ⟨by rw [HF.out]; rfl, _, World.drewN_drewN _ _ _⟩
    · obtain rfl : k = s.length := by omega
      go_wp2
      go_ret
      exact ⟨by rw [HE.out, HS.out]; rfl, m, rfl⟩
set_option maxRecDepth 100000 in
set_option maxHeartbeats 1000000 in
theorem isSetOf_any : Calls Tryd.prog 50 #[.int .i64 (n : Int), .slice B s.length d] w fun e w' => e = .returned (.bool (risL n s)) ∧ w' = w := by
  have HB : Hid (∀ k, risOk n s k = false → k < s.length → risL n s = false) := fun k h hk => risTo_bad hk h
  have HE : Hid (risL n s = risTo n s s.length) := rfl
  have H0 : Hid (risTo n s 0 = true) := rfl
  go_enter Tryd.func50, Tryd.ntmps50
  go_wp2
  go_loopw [9] (fun i wr => ∃ k : Nat, k ≤ s.length ∧ i = .int .i64 (k : Int) ∧ wr = w ∧ Hid (risTo n s k = true)) (fun i _ => s.length - (intOf i).toNat)
  case atStart => exact ⟨0, Nat.zero_le _, rfl, rfl, H0⟩
  case round =>
    obtain ⟨k, hk, rfl, rfl, HS⟩ := hrel
    clear H0
    by_cases hlt : k < s.length
    · have hk0 : (0 : Int) ≤ k := by omega
      have hk1 : (k : Int) < s.length := by omega
      obtain ⟨ad, hB, hc⟩ := hq.int hlt
      subst hB
      by_cases hneg : s[k] < 0
      · have HF := Lib.hid (HB.out k (risOk_bad hlt (by omega)) hlt)
        clear HS
        generalize s[k] = x at *
        go_wp2
        go_ret
        exact ⟨by rw [HF.out]; rfl, rfl⟩
      · by_cases hbig : (n : Int) ≤ s[k]
        · have HF := Lib.hid (HB.out k (risOk_bad hlt (by omega)) hlt)
          clear HS
          generalize s[k] = x at *
          go_wp2
          go_ret
          exact ⟨by rw [HF.out]; rfl, rfl⟩
        · have hr : 0 ≤ s[k] ∧ s[k] < n := by omega
          cases k with
          | zero =>
            have HN := Lib.hid (risL_step HS.out (risOk_first hlt hr))
            have hc0 : wr.cell? ad = some (.int .i64 s[0]) := by simpa [Addr.add] using hc
            clear HS hc
            generalize s[0] = x at *
            go_wp2
            go_roundw
            case rel => exact ⟨1, by omega, by go_num, trivial, HN⟩
            case measure => simp [intOf]; omega
          | succ k =>
            obtain ⟨ad', hB', hc'⟩ := hq.int (show k < s.length by omega)
            injection hB' with hB'
            subst hB'
            by_cases hlt2 : s[k]'(by omega) < s[k + 1]
            · have HN := Lib.hid (risL_step HS.out (risOk_next hlt hr hlt2))
              clear HS
              generalize s[k + 1] = x at *
              generalize s[k]'(by omega) = y at *
              have hsub : IntKind.i64.wrap (((k + 1 : Nat) : Int) - 1) = (k : Int) := by rw [IntWalk.i64_in _ (by omega)]; omega
              have hkpos : 0 < k + 1 := by omega
              have hkm0 : (0 : Int) ≤ k := by omega
              have hkm1 : (k : Int) < s.length := by omega
              generalize k + 1 = kk at *
              go_wp2
              go_roundw
              case rel => exact ⟨kk + 1, by omega, by go_num, trivial, HN⟩
              case measure => simp [intOf]; omega
            · have HF := Lib.hid (HB.out (k + 1) (risOk_back hlt (by omega)) hlt)
              clear HS
              generalize s[k + 1] = x at *
              generalize s[k]'(by omega) = y at *
              have hsub : IntKind.i64.wrap (((k + 1 : Nat) : Int) - 1) = (k : Int) := by rw [IntWalk.i64_in _ (by omega)]; omega
              have hkpos : 0 < k + 1 := by omega
              have hkm0 : (0 : Int) ≤ k := by omega
              have hkm1 : (k : Int) < s.length := by omega
              generalize k + 1 = kk at *
              go_wp2
              go_ret
              exact ⟨by rw [HF.out]; rfl, rfl⟩
    · obtain rfl : k = s.length := by omega
      go_wp2
      go_ret
      exact ⟨by rw [HE.out, HS.out]; rfl, rfl⟩
set_option maxRecDepth 100000 in
theorem setOfList_any (h8 : risL 8 s = true) : Calls Tryd.prog 51 #[.slice B s.length d] w fun e w' => e = .returned (.int .u64 (numS s : Int)) ∧ w' = w := by
  have HE : Hid (numS s = numTo s s.length) := rfl
  go_enter Tryd.func51, Tryd.ntmps51
  go_wp2
  go_loopw [3, 8] (fun v i wr => ∃ k : Nat, k ≤ s.length ∧ i = .int .i64 (k : Int) ∧ v = .int .u64 (numTo s k : Int) ∧ wr = w) (fun _ i _ => s.length - (intOf i).toNat)
  case atStart => exact ⟨0, Nat.zero_le _, rfl, rfl, rfl⟩
  case round =>
    obtain ⟨k, hk, rfl, rfl, rfl⟩ := hrel
    by_cases hlt : k < s.length
    · have hk0 : (0 : Int) ≤ k := by omega
      have hk1 : (k : Int) < s.length := by omega
      obtain ⟨ad, hB, hc⟩ := hq.int hlt
      subst hB
      have hx := ris_at h8 hlt
      have hxn : ((s[k].toNat : Nat) : Int) = s[k] := by omega
      have HW := Lib.hid (with_any (numTo s k) (s[k]).toNat (numTo_lt h8 k (by omega)) (by omega) wr)
      have HN : Hid (numTo s (k + 1) = addB (numTo s k) (s[k]).toNat) := by
        show addB _ _ = _
        rw [getD_at s 0 hlt]
      rw [hxn, ← HN.out] at HW
      clear hx hxn HN
      generalize s[k] = x at *
      go_wp2_with fail
      refine HW.out.mono ?_
      rintro e _ ⟨rfl, rfl⟩
      go_wp2
      go_roundw
      case rel => exact ⟨k + 1, by omega, by go_num, rfl, trivial⟩
      case measure => simp [intOf]; omega
    · obtain rfl : k = s.length := by omega
      go_wp2
      go_ret
      exact ⟨by rw [HE.out]; rfl, rfl⟩
end
end Go.Proofs.YtccnmldmolofaaaDoor
