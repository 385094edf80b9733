/- Open schedules: the model's side. -/
import Derived.Test.YtdhndoccdfbefaaShA
namespace Go.Proofs.Ytdhndoccdfbefaa
open Go.RowKit

def goodP (xss yss : List (List Int)) (i k : Nat) : Prop := (∀ h, h < k → meetB (tm yss i k) (tm xss i k) (tm yss i h) (tm xss i h) = false) ∧ (∀ j, j < i → meetB (tm yss i k) (tm xss i k) (tm yss j k) (tm xss j k) = false)
set_option maxRecDepth 100000 in
set_option maxHeartbeats 8000000 in
theorem l8Open_any (A : Option Addr) (c : Nat) (B : Option Addr) (d : Nat) (xss yss : List (List Int)) (w : World) (hr : RowSS w A (xss.map ic)) (hr2 : RowSS w B (yss.map ic)) (hs : Shop xss) (hx : xss.length ≤ 10000000 ∧ totL xss ≤ 10000000) (hn : yss.length ≤ 10000000 ∧ totL yss ≤ 10000000) :
    Calls Try.prog 68 #[.slice A xss.length c, .slice B yss.length d] w fun e w' => e = .returned (.bool (openB xss yss)) ∧ ∃ q, w' = w.drewN q := by
  have h8 := hs.n8
  have hM3 := hs.m3
  have hM1 := hs.m1
  have HST := Lib.hid (l8Starts_any A c B d xss yss w hr hr2 hs hn)
  have HM := Lib.hid (fun q => l8Machines_any A c xss (w.drewN q) hr hx)
  cases hst : startsB xss yss
  · have HN := Lib.hid (openB_no hst)
    rw [hst] at HST
    clear hr hr2 hs hst
    go_enter Try.func68, Try.ntmps68
    go_wp2_with fail
    refine HST.out.mono ?_
    rintro e _ ⟨rfl, q, rfl⟩
    go_wp2
    go_ret
    exact ⟨by rw [HN.out]; rfl, _, rfl⟩
  · rw [hst] at HST
    have hS := starts_out hst
    have HLEN := Lib.hid hS.len
    have HROW := Lib.hid (fun i (hi : i < xss.length) => hs.row hr hi)
    have HROY := Lib.hid (fun i (hi : i < xss.length) => rect_row hM1 hS.rows hr2 (i := i) (by rw [hS.len]; exact hi))
    have HMEET := Lib.hid (fun i k j h w => l8Meet_any (tm yss i k) (tm xss i k) (tm yss j h) (tm xss j h) w (hS.tm i k) (hs.tm i k) (hS.tm j h) (hs.tm j h))
    have HNOT := Lib.hid (fun (h : ¬ openP xss yss) => openB_not h)
    have HYES := Lib.hid (fun (h : openP xss yss) => openB_yes hst h)
    have hly : ((yss.length : Nat) : Int) = xss.length := by rw [hS.len]
    have HLY := Lib.hid hly
    clear hr hr2 hs hst hS hly
    go_enter Try.func68, Try.ntmps68
    go_wp2_with fail
    refine HST.out.mono ?_
    rintro e _ ⟨rfl, q, rfl⟩
    go_wp2_with fail
    refine (HM.out _).mono ?_
    rintro e _ ⟨rfl, q0, rfl⟩
    go_wp2
    generalize hMM : mOf xss = M at *
    have HMM := Lib.hid hMM
    clear hMM
    go_loopw [6] (fun i wr => ∃ i1 q : Nat, i1 ≤ xss.length ∧ i = .int .i64 (i1 : Int) ∧ Hid (∀ x, x < i1 → ∀ k, k < M → goodP xss yss x k) ∧ wr = w.drewN q) (fun i _ => xss.length - (intOf i).toNat)
    case atStart => exact ⟨0, _, Nat.zero_le _, rfl, fun _ h => absurd h (by omega), rfl⟩
    case round =>
      obtain ⟨i1, q1, hi1, rfl, H1, rfl⟩ := hrel
      by_cases hlt1 : i1 < xss.length
      · obtain ⟨ad, bx, dx, hA, hcx, hfx⟩ := HROW.out i1 hlt1
        subst hA
        obtain ⟨bd, by_, dy, hB, hcy, hfy⟩ := HROY.out i1 hlt1
        subst hB
        have hi10 : (0 : Int) ≤ i1 := by omega
        have hi11 : (i1 : Int) < xss.length := by omega
        have hi12 : (i1 : Int) < yss.length := by have := HLEN.out; omega
        have HFX := Lib.hid hfx
        have HFY := Lib.hid hfy
        clear hfx hfy
        go_wp2
        go_loopw [7] (fun i wr => ∃ k q : Nat, k ≤ M ∧ i = .int .i64 (k : Int) ∧ Hid (∀ k2, k2 < k → goodP xss yss i1 k2) ∧ wr = w.drewN q) (fun i _ => M - (intOf i).toNat)
        case atStart => exact ⟨0, _, Nat.zero_le _, rfl, fun _ h => absurd h (by omega), rfl⟩
        case round =>
          obtain ⟨k, q2, hk, rfl, H2, rfl⟩ := hrel
          by_cases hlt2 : k < M
          · have hxk := HFX.out k hlt2
            have hyk := HFY.out k hlt2
            have hk0 : (0 : Int) ≤ k := by omega
            have hk1 : (k : Int) < M := by omega
            generalize hT : tm xss i1 k = t at hxk
            generalize hSS : tm yss i1 k = s at hyk
            have HT := Lib.hid hT
            have HSS := Lib.hid hSS
            clear hT hSS
            go_wp2
            go_loopw [8] (fun i wr => ∃ h q : Nat, h ≤ k ∧ i = .int .i64 (h : Int) ∧ Hid (∀ h2, h2 < h → meetB s t (tm yss i1 h2) (tm xss i1 h2) = false) ∧ wr = w.drewN q) (fun i _ => k - (intOf i).toNat)
            case atStart => exact ⟨0, _, Nat.zero_le _, rfl, fun _ h => absurd h (by omega), rfl⟩
            case round =>
              obtain ⟨h, q3, hh, rfl, H3, rfl⟩ := hrel
              by_cases hlt3 : h < k
              · have hxh := HFX.out h (by omega)
                have hyh := HFY.out h (by omega)
                have hh0 : (0 : Int) ≤ h := by omega
                have hh1 : (h : Int) < k := by omega
                have hh2 : (h : Int) < M := by omega
                have HME := Lib.hid (fun w => HMEET.out i1 k i1 h w)
                rw [HT.out, HSS.out] at HME
                have HGD : Hid (meetB s t (tm yss i1 h) (tm xss i1 h) = false → ∀ h2, h2 < h + 1 → meetB s t (tm yss i1 h2) (tm xss i1 h2) = false) := fun hm h2 hlt => by
                  by_cases e : h2 = h
                  · subst e; exact hm
                  · exact H3.out h2 (by omega)
                have HBD : Hid (meetB s t (tm yss i1 h) (tm xss i1 h) = true → openB xss yss = false) := fun hm => HNOT.out fun hp => by
                  have := (hp i1 hlt1 k (by rw [HMM.out]; exact hlt2)).1 h hlt3
                  rw [HT.out, HSS.out, hm] at this
                  cases this
                generalize tm yss i1 h = s2 at *
                generalize tm xss i1 h = t2 at *
                clear H3
                cases hm : meetB s t s2 t2
                · have HG2 := Lib.hid (HGD.out hm)
                  have HMT := Lib.hid (fun w => hm ▸ HME.out w)
                  clear hm
                  go_wp2
                  go_quiet ((go_at_call 82; (first | exact quiet_same (HMT.out _) | exact Calls.quiet_of ((HMT.out _).mono fun _ _ h => ⟨h.1, 0, h.2.symm⟩))))
                  go_wp2
                  go_roundw
                  case rel => exact ⟨h + 1, _, by omega, by go_num, HG2.out, rfl⟩
                  case measure => simp [intOf]; omega
                · have HB2 := Lib.hid (HBD.out hm)
                  have HMT := Lib.hid (fun w => hm ▸ HME.out w)
                  clear hm
                  go_wp2
                  go_quiet ((go_at_call 82; (first | exact quiet_same (HMT.out _) | exact Calls.quiet_of ((HMT.out _).mono fun _ _ h => ⟨h.1, 0, h.2.symm⟩))))
                  go_wp2
                  go_ret
                  exact ⟨by rw [HB2.out]; rfl, _, by first | rfl | exact World.drewN_drewN _ _ _⟩
              · obtain rfl : h = k := by omega
                go_wp2
                go_loopw [9] (fun i wr => ∃ j q : Nat, j ≤ i1 ∧ i = .int .i64 (j : Int) ∧ Hid (∀ j2, j2 < j → meetB s t (tm yss j2 h) (tm xss j2 h) = false) ∧ wr = w.drewN q) (fun i _ => i1 - (intOf i).toNat)
                case atStart => exact ⟨0, _, Nat.zero_le _, rfl, fun _ h => absurd h (by omega), rfl⟩
                case round =>
                  obtain ⟨j, q4, hj, rfl, H4, rfl⟩ := hrel
                  by_cases hlt4 : j < i1
                  · obtain ⟨ad2, bx2, dx2, hA2, hcx2, hfx2⟩ := HROW.out j (by omega)
                    injection hA2 with hA2
                    subst hA2
                    obtain ⟨bd2, by2, dy2, hB2, hcy2, hfy2⟩ := HROY.out j (by omega)
                    injection hB2 with hB2
                    subst hB2
                    have hxj := hfx2 h hlt2
                    have hyj := hfy2 h hlt2
                    have hj0 : (0 : Int) ≤ j := by omega
                    have hj1 : (j : Int) < i1 := by omega
                    have hj2 : (j : Int) < xss.length := by omega
                    have hj3 : (j : Int) < yss.length := by have := HLEN.out; omega
                    have HME := Lib.hid (fun w => HMEET.out i1 h j h w)
                    rw [HT.out, HSS.out] at HME
                    have HGD : Hid (meetB s t (tm yss j h) (tm xss j h) = false → ∀ j2, j2 < j + 1 → meetB s t (tm yss j2 h) (tm xss j2 h) = false) := fun hm j2 hlt => by
                      by_cases e : j2 = j
                      · subst e; exact hm
                      · exact H4.out j2 (by omega)
                    have HBD : Hid (meetB s t (tm yss j h) (tm xss j h) = true → openB xss yss = false) := fun hm => HNOT.out fun hp => by
                      have := (hp i1 hlt1 h (by rw [HMM.out]; exact hlt2)).2 j hlt4
                      rw [HT.out, HSS.out, hm] at this
                      cases this
                    generalize tm yss j h = s2 at *
                    generalize tm xss j h = t2 at *
                    clear H4 hfx2 hfy2
                    cases hm : meetB s t s2 t2
                    · have HG2 := Lib.hid (HGD.out hm)
                      have HMT := Lib.hid (fun w => hm ▸ HME.out w)
                      clear hm
                      go_wp2
                      go_quiet ((go_at_call 82; (first | exact quiet_same (HMT.out _) | exact Calls.quiet_of ((HMT.out _).mono fun _ _ h => ⟨h.1, 0, h.2.symm⟩))))
                      go_wp2
                      go_roundw
                      case rel => exact ⟨j + 1, _, by omega, by go_num, HG2.out, rfl⟩
                      case measure => simp [intOf]; omega
                    · have HB2 := Lib.hid (HBD.out hm)
                      have HMT := Lib.hid (fun w => hm ▸ HME.out w)
                      clear hm
                      go_wp2
                      go_quiet ((go_at_call 82; (first | exact quiet_same (HMT.out _) | exact Calls.quiet_of ((HMT.out _).mono fun _ _ h => ⟨h.1, 0, h.2.symm⟩))))
                      go_wp2
                      go_ret
                      exact ⟨by rw [HB2.out]; rfl, _, by first | rfl | exact World.drewN_drewN _ _ _⟩
                  · obtain rfl : j = i1 := by omega
                    have HG2 : Hid (∀ k2, k2 < h + 1 → goodP xss yss j k2) := fun k2 hk2 => by
                      by_cases e : k2 = h
                      · subst e
                        unfold goodP
                        rw [HT.out, HSS.out]
                        exact ⟨H3.out, H4.out⟩
                      · exact H2.out k2 (by omega)
                    clear H2 H3 H4
                    go_wp2
                    go_roundw
                    case rel => exact ⟨h + 1, _, by omega, by go_num, HG2.out, rfl⟩
                    case measure => simp [intOf]; omega
          · obtain rfl : k = M := by omega
            have HG2 : Hid (∀ x, x < i1 + 1 → ∀ k2, k2 < k → goodP xss yss x k2) := fun x hx k2 hk2 => by
              by_cases e : x = i1
              · subst e; exact H2.out k2 hk2
              · exact H1.out x (by omega) k2 hk2
            clear H1 H2
            go_wp2
            go_roundw
            case rel => exact ⟨i1 + 1, _, by omega, by go_num, HG2.out, rfl⟩
            case measure => simp [intOf]; omega
      · obtain rfl : i1 = xss.length := by omega
        have HG2 := Lib.hid (HYES.out (by
          intro i hi k hk
          rw [HMM.out] at hk
          exact H1.out i hi k hk))
        clear H1
        go_wp2
        go_ret
        exact ⟨by rw [HG2.out]; rfl, _, rfl⟩
end Go.Proofs.Ytdhndoccdfbefaa
