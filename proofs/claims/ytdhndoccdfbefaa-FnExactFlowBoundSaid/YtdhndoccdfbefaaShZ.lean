/- FlowBound: both sides. -/
import Derived.Test.YtdhndoccdfbefaaShY
namespace Go.Proofs.Ytdhndoccdfbefaa
open Go.RowKit

/-- The capacities of what lies in a list of lists. -/
def CapSS (w : World) (A : Option Addr) (css : List (List Value)) : Prop := ∀ (k n d : Nat) (B : Option Addr) (ad : Addr), A = some ad → k < css.length → w.cell? (ad.add k) = some (.slice B n d) → n ≤ d
theorem SegSS.caps {w : World} {lo hi : Nat} {A : Option Addr} {n c : Nat} {css : List (List Value)} (h : SegSS w lo hi A n c css) : CapSS w A css := by
  obtain ⟨_, vs, h1, h2, h3, _⟩ := h
  intro k n' d B ad e hk hc
  obtain ⟨ad', e', hc'⟩ := h2.row.at_ (k := k) (by rw [slC_len h1]; exact hk)
  rw [e] at e'
  injection e' with e'
  subst e'
  rw [slC_get h1 hk, hc] at hc'
  injection hc' with hc'
  injection hc' with _ q2 q3
  subst q2 q3
  exact (h3 k hk (by omega)).nlec
def boundR (xss : List (List Int)) : Int × Bool := if shopB xss then (boundV xss, true) else (0, false)
theorem boundR_no {xss : List (List Int)} (h : shopB xss = false) : boundR xss = (0, false) := by unfold boundR; rw [h]; rfl
theorem boundR_yes {xss : List (List Int)} (h : shopB xss = true) : boundR xss = (boundV xss, true) := by unfold boundR; rw [h]; rfl
set_option maxRecDepth 100000 in
set_option maxHeartbeats 4000000 in
theorem spec_boundIn (A : Option Addr) (c : Nat) (xss : List (List Int)) (w : World) (hr : RowSS w A (xss.map ic)) (hcap : CapSS w A (xss.map ic)) (hn : xss.length ≤ 10000000 ∧ totL xss ≤ 10000000) (hs2 : shopB xss = true) :
    Calls Try.prog 34 #[.slice A xss.length c] w (RetNb w (boundV xss, true)) := by
  have hs := shopB_out hs2
  have HI := Lib.hid (hs2 ▸ l8Good_any A c xss w hr hn)
  have h8 := hs.n8
  have hM3 := hs.m3
  have hM1 := hs.m1
  have HROW : Hid (∀ i, i < xss.length → ∃ ad b d, A = some ad ∧ w.cell? (ad.add i) = some (.slice (some b) (mOf xss) d) ∧ mOf xss ≤ d ∧ ∀ k, k < mOf xss → w.cell? (b.add k) = some (.int .i64 (tm xss i k))) := fun i hi => by
    obtain ⟨ad, b, d, e, hc, hf⟩ := hs.row hr hi
    exact ⟨ad, b, d, e, hc, hcap i _ _ _ _ e (by simpa using hi) hc, hf⟩
  have HM := Lib.hid (fun q => l8Machines_any A c xss (w.drewN q) hr hn)
  have HTM := Lib.hid (fun i k => hs.tm i k)
  have HSB := Lib.hid (fun v k => sumN_bd (f := fun y => tm xss y v) (fun y => hs.tm y v) k)
  have HHB := Lib.hid (fun v (hv : v < mOf xss) i => hd_bd hs hv i)
  have HTB := Lib.hid (fun v (hv : v < mOf xss) i => tl_bd hs hv i)
  have HV : Hid (0 < xss.length → boundV xss = mxF 0 (boundAt xss) (mOf xss)) := fun h => by unfold boundV; rw [if_neg (by omega)]
  have HV0 : Hid (¬ 0 < xss.length → boundV xss = 0) := fun h => by unfold boundV; rw [if_pos (by omega)]
  have HX : Hid (0 < xss.length → ∀ k, k ≤ mOf xss → 0 ≤ mxF 0 (boundAt xss) k ∧ mxF 0 (boundAt xss) k ≤ 420) := fun h => bound_bd hs h
  clear hr hs hcap hs2
  go_enter Try.func34, Try.ntmps34
  go_wp2_with fail
  refine HI.out.mono ?_
  rintro e _ ⟨rfl, q0, rfl⟩
  go_wp2
  go_loopw [4, 5] (fun z i wr => ∃ k q : Nat, k ≤ mOf xss ∧ i = .int .i64 (k : Int) ∧ z = .int .i64 (mxF 0 (boundAt xss) k) ∧ Hid (0 < k → 0 < xss.length) ∧ wr = w.drewN q) (fun _ i _ => mOf xss - (intOf i).toNat)
  case atStart => exact ⟨0, _, Nat.zero_le _, rfl, rfl, fun h => absurd h (by omega), rfl⟩
  case round =>
    obtain ⟨k, q, hk, rfl, rfl, HP, rfl⟩ := hrel
    by_cases h0 : 0 < xss.length
    · have hp : (0 : Int) < xss.length := by omega
      by_cases hlt : k < mOf xss
      · have hi0 : (0 : Int) ≤ k := by omega
        have hi1 : (k : Int) < (mOf xss : Nat) := by omega
        have hx := HX.out h0 k hk
        have HZ1 : Hid (mxF 0 (boundAt xss) (k + 1) = max (mxF 0 (boundAt xss) k) (boundAt xss k)) := rfl
        have HP2 : Hid (0 < k + 1 → 0 < xss.length) := fun _ => h0
        have HAT : Hid (boundAt xss k = colS xss k + hF (hdS xss k) xss.length + hF (tlS xss k) xss.length) := rfl
        generalize mxF 0 (boundAt xss) k = z0 at *
        clear HP
        go_wp2_with (go_at_call 64; refine (HM.out _).mono ?_; rintro e _ ⟨rfl, q1, rfl⟩)
        go_loopw [6, 7, 8, 9] (fun s a b i wr => ∃ x q : Nat, x ≤ xss.length ∧ i = .int .i64 (x : Int) ∧ s = .int .i64 (sumN (fun y => tm xss y k) x) ∧ a = .int .i64 (hF (hdS xss k) x) ∧ b = .int .i64 (hF (tlS xss k) x) ∧ wr = w.drewN q) (fun _ _ _ i _ => xss.length - (intOf i).toNat)
        case atStart => exact ⟨0, _, Nat.zero_le _, rfl, rfl, rfl, rfl, rfl⟩
        case round =>
          obtain ⟨x, q2, hx2, rfl, rfl, rfl, rfl, rfl⟩ := hrel
          by_cases hlt2 : x < xss.length
          · obtain ⟨ad, b, d, hA, hcx, hmd, hf⟩ := HROW.out x hlt2
            subst hA
            have hcv := hf k hlt
            have hx0 : (0 : Int) ≤ x := by omega
            have hx1 : (x : Int) < xss.length := by omega
            have hs1 := HSB.out k x
            have ht := HTM.out x k
            have hkd : (k : Int) ≤ d := by omega
            have hkd1 : (k : Int) + 1 ≤ (mOf xss : Nat) := by omega
            have hkd2 : (k : Int) + 1 ≤ d := by omega
            have hk1 : k ≤ d := by omega
            have hk2 : k + 1 ≤ mOf xss := by omega
            have HS1 := Lib.hid (fun q => l8Sum_any (some b) k d (tm xss x) (w.drewN q) (fun y hy => ⟨b, rfl, hf y (by omega)⟩) (by omega) (fun y => HTM.out x y))
            rw [show sumN (tm xss x) k = hdS xss k x from rfl] at HS1
            have hh1 := HHB.out k hlt x
            have hh2 := HTB.out k hlt x
            obtain ⟨g1, g2, _⟩ := hF_bd (HHB.out k hlt) x
            obtain ⟨g3, g4, _⟩ := hF_bd (HTB.out k hlt) x
            have HN1 : Hid (sumN (fun y => tm xss y k) (x + 1) = sumN (fun y => tm xss y k) x + tm xss x k) := rfl
            have HN2 : Hid (hF (hdS xss k) (x + 1) = if hF (hdS xss k) x < 0 then hdS xss k x else if hdS xss k x < hF (hdS xss k) x then hdS xss k x else hF (hdS xss k) x) := rfl
            have HN3 : Hid (hF (tlS xss k) (x + 1) = if hF (tlS xss k) x < 0 then tlS xss k x else if tlS xss k x < hF (tlS xss k) x then tlS xss k x else hF (tlS xss k) x) := rfl
            have hcx' : (w.drewN q2).cell? (ad.add x) = some (.slice (some b) (mOf xss) d) := hcx
            have HF := Lib.hid hf
            clear hf
            generalize sumN (fun y => tm xss y k) x = s0 at *
            generalize tm xss x k = t at *
            generalize hF (hdS xss k) x = a0 at *
            generalize hF (tlS xss k) x = b0 at *
            generalize hdS xss k x = a1 at *
            generalize hb1 : tlS xss k x = b1 at *
            have HB1 := Lib.hid hb1
            clear hb1
            have HS2a : Hid (∀ q, ¬ d = k + 1 → Calls Try.prog 65 #[.slice (some ⟨b.block, b.off + (k + 1), none⟩) (mOf xss - (k + 1)) (d - (k + 1))] (w.drewN q) fun e w' => e = .returned (.int .i64 b1) ∧ w.drewN q = w') := fun q _ => by
              have := l8Sum_any (some (b.add (k + 1))) (mOf xss - (k + 1)) (d - (k + 1)) (fun y => tm xss x (k + 1 + y)) (w.drewN q) (fun y hy => ⟨_, rfl, by rw [Go.Deep.add_add]; exact HF.out (k + 1 + y) (by omega)⟩) (by omega) (fun y => HTM.out x _)
              rw [show sumN (fun y => tm xss x (k + 1 + y)) (mOf xss - (k + 1)) = b1 from HB1.out] at this
              exact this
            have HS2b : Hid (∀ q, d = k + 1 → Calls Try.prog 65 #[.slice (some b) (mOf xss - (k + 1)) 0] (w.drewN q) fun e w' => e = .returned (.int .i64 b1) ∧ w.drewN q = w') := fun q hd => by
              have := l8Sum_any (some b) (mOf xss - (k + 1)) 0 (fun y => tm xss x (k + 1 + y)) (w.drewN q) (fun y hy => absurd hy (by omega)) (by omega) (fun y => HTM.out x _)
              rw [show sumN (fun y => tm xss x (k + 1 + y)) (mOf xss - (k + 1)) = b1 from HB1.out] at this
              exact this
            by_cases ha : a0 < 0
            · rw [if_pos ha] at HN2
              by_cases hb : b0 < 0
              · rw [if_pos hb] at HN3
                go_wp2_with fail
                refine (HS1.out _).mono ?_
                rintro e _ ⟨rfl, rfl⟩
                go_wp2_with fail
                · refine (HS2b.out _ (by first | assumption | omega)).mono ?_
                  rintro e _ ⟨rfl, rfl⟩
                  go_wp2
                  go_roundw
                  case rel => exact ⟨x + 1, _, by omega, by go_num, by rw [HN1.out], by rw [HN2.out], by rw [HN3.out], rfl⟩
                  case measure => simp [intOf]; omega
                · refine (HS2a.out _ (by first | assumption | omega)).mono ?_
                  rintro e _ ⟨rfl, rfl⟩
                  go_wp2
                  go_roundw
                  case rel => exact ⟨x + 1, _, by omega, by go_num, by rw [HN1.out], by rw [HN2.out], by rw [HN3.out], rfl⟩
                  case measure => simp [intOf]; omega
              · rw [if_neg hb] at HN3
                by_cases hb2 : b1 < b0
                · rw [if_pos hb2] at HN3
                  go_wp2_with fail
                  refine (HS1.out _).mono ?_
                  rintro e _ ⟨rfl, rfl⟩
                  go_wp2_with fail
                  · refine (HS2b.out _ (by first | assumption | omega)).mono ?_
                    rintro e _ ⟨rfl, rfl⟩
                    go_wp2
                    go_roundw
                    case rel => exact ⟨x + 1, _, by omega, by go_num, by rw [HN1.out], by rw [HN2.out], by rw [HN3.out], rfl⟩
                    case measure => simp [intOf]; omega
                  · refine (HS2a.out _ (by first | assumption | omega)).mono ?_
                    rintro e _ ⟨rfl, rfl⟩
                    go_wp2
                    go_roundw
                    case rel => exact ⟨x + 1, _, by omega, by go_num, by rw [HN1.out], by rw [HN2.out], by rw [HN3.out], rfl⟩
                    case measure => simp [intOf]; omega
                · rw [if_neg hb2] at HN3
                  go_wp2_with fail
                  refine (HS1.out _).mono ?_
                  rintro e _ ⟨rfl, rfl⟩
                  go_wp2_with fail
                  · refine (HS2b.out _ (by first | assumption | omega)).mono ?_
                    rintro e _ ⟨rfl, rfl⟩
                    go_wp2
                    go_roundw
                    case rel => exact ⟨x + 1, _, by omega, by go_num, by rw [HN1.out], by rw [HN2.out], by rw [HN3.out], rfl⟩
                    case measure => simp [intOf]; omega
                  · refine (HS2a.out _ (by first | assumption | omega)).mono ?_
                    rintro e _ ⟨rfl, rfl⟩
                    go_wp2
                    go_roundw
                    case rel => exact ⟨x + 1, _, by omega, by go_num, by rw [HN1.out], by rw [HN2.out], by rw [HN3.out], rfl⟩
                    case measure => simp [intOf]; omega
            · rw [if_neg ha] at HN2
              by_cases ha2 : a1 < a0
              · rw [if_pos ha2] at HN2
                by_cases hb : b0 < 0
                · rw [if_pos hb] at HN3
                  go_wp2_with fail
                  refine (HS1.out _).mono ?_
                  rintro e _ ⟨rfl, rfl⟩
                  go_wp2_with fail
                  · refine (HS2b.out _ (by first | assumption | omega)).mono ?_
                    rintro e _ ⟨rfl, rfl⟩
                    go_wp2
                    go_roundw
                    case rel => exact ⟨x + 1, _, by omega, by go_num, by rw [HN1.out], by rw [HN2.out], by rw [HN3.out], rfl⟩
                    case measure => simp [intOf]; omega
                  · refine (HS2a.out _ (by first | assumption | omega)).mono ?_
                    rintro e _ ⟨rfl, rfl⟩
                    go_wp2
                    go_roundw
                    case rel => exact ⟨x + 1, _, by omega, by go_num, by rw [HN1.out], by rw [HN2.out], by rw [HN3.out], rfl⟩
                    case measure => simp [intOf]; omega
                · rw [if_neg hb] at HN3
                  by_cases hb2 : b1 < b0
                  · rw [if_pos hb2] at HN3
                    go_wp2_with fail
                    refine (HS1.out _).mono ?_
                    rintro e _ ⟨rfl, rfl⟩
                    go_wp2_with fail
                    · refine (HS2b.out _ (by first | assumption | omega)).mono ?_
                      rintro e _ ⟨rfl, rfl⟩
                      go_wp2
                      go_roundw
                      case rel => exact ⟨x + 1, _, by omega, by go_num, by rw [HN1.out], by rw [HN2.out], by rw [HN3.out], rfl⟩
                      case measure => simp [intOf]; omega
                    · refine (HS2a.out _ (by first | assumption | omega)).mono ?_
                      rintro e _ ⟨rfl, rfl⟩
                      go_wp2
                      go_roundw
                      case rel => exact ⟨x + 1, _, by omega, by go_num, by rw [HN1.out], by rw [HN2.out], by rw [HN3.out], rfl⟩
                      case measure => simp [intOf]; omega
                  · rw [if_neg hb2] at HN3
                    go_wp2_with fail
                    refine (HS1.out _).mono ?_
                    rintro e _ ⟨rfl, rfl⟩
                    go_wp2_with fail
                    · refine (HS2b.out _ (by first | assumption | omega)).mono ?_
                      rintro e _ ⟨rfl, rfl⟩
                      go_wp2
                      go_roundw
                      case rel => exact ⟨x + 1, _, by omega, by go_num, by rw [HN1.out], by rw [HN2.out], by rw [HN3.out], rfl⟩
                      case measure => simp [intOf]; omega
                    · refine (HS2a.out _ (by first | assumption | omega)).mono ?_
                      rintro e _ ⟨rfl, rfl⟩
                      go_wp2
                      go_roundw
                      case rel => exact ⟨x + 1, _, by omega, by go_num, by rw [HN1.out], by rw [HN2.out], by rw [HN3.out], rfl⟩
                      case measure => simp [intOf]; omega
              · rw [if_neg ha2] at HN2
                by_cases hb : b0 < 0
                · rw [if_pos hb] at HN3
                  go_wp2_with fail
                  refine (HS1.out _).mono ?_
                  rintro e _ ⟨rfl, rfl⟩
                  go_wp2_with fail
                  · refine (HS2b.out _ (by first | assumption | omega)).mono ?_
                    rintro e _ ⟨rfl, rfl⟩
                    go_wp2
                    go_roundw
                    case rel => exact ⟨x + 1, _, by omega, by go_num, by rw [HN1.out], by rw [HN2.out], by rw [HN3.out], rfl⟩
                    case measure => simp [intOf]; omega
                  · refine (HS2a.out _ (by first | assumption | omega)).mono ?_
                    rintro e _ ⟨rfl, rfl⟩
                    go_wp2
                    go_roundw
                    case rel => exact ⟨x + 1, _, by omega, by go_num, by rw [HN1.out], by rw [HN2.out], by rw [HN3.out], rfl⟩
                    case measure => simp [intOf]; omega
                · rw [if_neg hb] at HN3
                  by_cases hb2 : b1 < b0
                  · rw [if_pos hb2] at HN3
                    go_wp2_with fail
                    refine (HS1.out _).mono ?_
                    rintro e _ ⟨rfl, rfl⟩
                    go_wp2_with fail
                    · refine (HS2b.out _ (by first | assumption | omega)).mono ?_
                      rintro e _ ⟨rfl, rfl⟩
                      go_wp2
                      go_roundw
                      case rel => exact ⟨x + 1, _, by omega, by go_num, by rw [HN1.out], by rw [HN2.out], by rw [HN3.out], rfl⟩
                      case measure => simp [intOf]; omega
                    · refine (HS2a.out _ (by first | assumption | omega)).mono ?_
                      rintro e _ ⟨rfl, rfl⟩
                      go_wp2
                      go_roundw
                      case rel => exact ⟨x + 1, _, by omega, by go_num, by rw [HN1.out], by rw [HN2.out], by rw [HN3.out], rfl⟩
                      case measure => simp [intOf]; omega
                  · rw [if_neg hb2] at HN3
                    go_wp2_with fail
                    refine (HS1.out _).mono ?_
                    rintro e _ ⟨rfl, rfl⟩
                    go_wp2_with fail
                    · refine (HS2b.out _ (by first | assumption | omega)).mono ?_
                      rintro e _ ⟨rfl, rfl⟩
                      go_wp2
                      go_roundw
                      case rel => exact ⟨x + 1, _, by omega, by go_num, by rw [HN1.out], by rw [HN2.out], by rw [HN3.out], rfl⟩
                      case measure => simp [intOf]; omega
                    · refine (HS2a.out _ (by first | assumption | omega)).mono ?_
                      rintro e _ ⟨rfl, rfl⟩
                      go_wp2
                      go_roundw
                      case rel => exact ⟨x + 1, _, by omega, by go_num, by rw [HN1.out], by rw [HN2.out], by rw [HN3.out], rfl⟩
                      case measure => simp [intOf]; omega
          · obtain rfl : x = xss.length := by omega
            obtain ⟨g1, g2, _⟩ := hF_bd (HHB.out k hlt) xss.length
            obtain ⟨g3, g4, _⟩ := hF_bd (HTB.out k hlt) xss.length
            have hsb := HSB.out k xss.length
            rw [show sumN (fun y => tm xss y k) xss.length = colS xss k from rfl] at hsb ⊢
            generalize hF (hdS xss k) xss.length = a0 at *
            generalize hF (tlS xss k) xss.length = b0 at *
            generalize colS xss k = s0 at *
            have HZ2 : Hid (mxF 0 (boundAt xss) (k + 1) = max z0 (a0 + s0 + b0)) := by show _ = _; rw [HZ1.out, HAT.out, show s0 + a0 + b0 = a0 + s0 + b0 by omega]
            clear HZ1 HAT
            go_wp2_with (go_at_call 66; refine (l1Most_any _ _ _).mono ?_; rintro e _ ⟨rfl, rfl⟩)
            go_roundw
            case rel => exact ⟨k + 1, _, by omega, by go_num, by rw [HZ2.out], HP2.out, rfl⟩
            case measure => simp [intOf]; omega
      · obtain rfl : k = mOf xss := by omega
        have HE := Lib.hid (HV.out h0)
        clear HP
        go_wp2_with (go_at_call 64; refine (HM.out _).mono ?_; rintro e _ ⟨rfl, q1, rfl⟩)
        go_ret2
        exact ⟨by rw [HE.out]; rfl, below_drewN (Below.refl _ _) _⟩
    · have hk0 : k = 0 := by
        rcases Nat.eq_zero_or_pos k with h | h
        · exact h
        · exact absurd (HP.out h) h0
      have hp : ¬ (0 : Int) < xss.length := by omega
      have HE : Hid (boundV xss = mxF 0 (boundAt xss) k) := by show _ = _; rw [HV0.out h0, hk0]; rfl
      have hlt : k < mOf xss := by omega
      have hi1 : (k : Int) < (mOf xss : Nat) := by omega
      clear HP hk0
      go_wp2_with (go_at_call 64; refine (HM.out _).mono ?_; rintro e _ ⟨rfl, q1, rfl⟩)
      go_ret2
      exact ⟨by rw [HE.out]; rfl, below_drewN (Below.refl _ _) _⟩
set_option maxHeartbeats 1000000 in
theorem spec_FlowBound (A : Option Addr) (c : Nat) (xss : List (List Int)) (w : World) (hr : RowSS w A (xss.map ic)) (hn : xss.length ≤ 10000000 ∧ totL xss ≤ 10000000) (hcap : CapSS w A (xss.map ic)) : Calls Try.prog 34 #[.slice A xss.length c] w (RetNb w (boundR xss)) := by
  cases hs : shopB xss
  · have HI := Lib.hid (l8Good_any A c xss w hr hn)
    have HO := Lib.hid (boundR_no hs)
    rw [hs] at HI
    clear hr hs hcap
    go_enter Try.func34, Try.ntmps34
    go_wp2_with fail
    refine HI.out.mono ?_
    rintro e _ ⟨rfl, q, rfl⟩
    go_wp2
    go_ret2
    exact ⟨by rw [HO.out]; rfl, below_drewN (Below.refl _ _) _⟩
  · rw [boundR_yes hs]
    exact spec_boundIn A c xss w hr hcap hn hs
set_option maxHeartbeats 1000000 in
theorem impl_FlowBound (A : Option Addr) (c : Nat) (xss : List (List Int)) (w : World) (hr : RowSS w A (xss.map ic)) (hn : xss.length ≤ 10000000 ∧ totL xss ≤ 10000000) (_hcap : CapSS w A (xss.map ic)) : Calls Try.prog 35 #[.slice A xss.length c] w (RetNb w (boundR xss)) := by
  have HI := Lib.hid (isShop_any A c xss w hr hn)
  cases hs : shopB xss
  · have HO := Lib.hid (boundR_no hs)
    rw [hs] at HI
    clear hr hs
    go_enter Try.func35, Try.ntmps35
    go_wp2_with fail
    refine HI.out.mono ?_
    rintro e _ ⟨rfl, q, rfl⟩
    go_wp2
    go_ret2
    exact ⟨by rw [HO.out]; rfl, below_drewN (Below.refl _ _) _⟩
  · rw [boundR_yes hs]
    rw [hs] at HI
    have HC := Lib.hid (fun q => flowBound_any A c xss (w.drewN q) hr (shopB_out hs) hn)
    clear hr hs
    go_enter Try.func35, Try.ntmps35
    go_wp2_with fail
    refine HI.out.mono ?_
    rintro e _ ⟨rfl, q, rfl⟩
    go_wp2_with fail
    refine (HC.out _).mono ?_
    rintro e w2 ⟨rfl, hb⟩
    have HB : Hid (Below w.heap.size w w2) := (below_drewN (Below.refl _ _) q).trans hb
    clear hb
    go_wp2
    go_ret2
    exact ⟨rfl, HB.out⟩
end Go.Proofs.Ytdhndoccdfbefaa
