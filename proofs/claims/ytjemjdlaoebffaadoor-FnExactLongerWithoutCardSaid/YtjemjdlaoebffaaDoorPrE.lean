/- Pairs in strictly ascending order: the program's. -/
import Derived.Test.YtjemjdlaoebffaaDoorPrC
import Derived.Test.YtjemjdlaoebffaaDoorPrecP
import Derived.Test.YtjemjdlaoebffaaDoorKb3
import Derived.Deep.RegionWith
import Derived.StillTailTactics
namespace Go.Proofs.YtjemjdlaoebffaaDoor
open Go.RowKit
theorem isNaN_any (x : Int) (w : World) : Calls Tryd.prog 218 #[.int .i64 x] w fun e w' => e = .returned (.bool false) ∧ w = w' := by
  have e0 : ((x : Int) != x) = false := by simp
  go_enter Tryd.func218, Tryd.ntmps218
  go_wp2
  go_ret
  exact ⟨rfl, rfl⟩
def cmpB (x y : Int) : Int := if x < y then -1 else if y < x then 1 else 0
set_option maxHeartbeats 1000000 in
theorem cmpI_any (x y : Int) (w : World) : Calls Tryd.prog 201 #[.int .i64 x, .int .i64 y] w fun e w' => e = .returned (.int .i64 (cmpB x y)) ∧ w = w' := by
  have H1 := Lib.hid (fun w => isNaN_any x w)
  have H2 := Lib.hid (fun w => isNaN_any y w)
  rcases (by omega : x < y ∨ (¬ x < y ∧ y < x) ∨ (¬ x < y ∧ ¬ y < x)) with h | ⟨h, h'⟩ | ⟨h, h'⟩
  · have e : cmpB x y = -1 := by unfold cmpB; rw [if_pos h]
    rw [e]
    go_enter Tryd.func201, Tryd.ntmps201
    go_wp2_with fail
    refine (H1.out _).mono ?_
    rintro e _ ⟨rfl, rfl⟩
    go_wp2_with fail
    refine (H2.out _).mono ?_
    rintro e _ ⟨rfl, rfl⟩
    go_wp2
    go_ret
    exact ⟨rfl, rfl⟩
  · have e : cmpB x y = 1 := by unfold cmpB; rw [if_neg h, if_pos h']
    rw [e]
    go_enter Tryd.func201, Tryd.ntmps201
    go_wp2_with fail
    refine (H1.out _).mono ?_
    rintro e _ ⟨rfl, rfl⟩
    go_wp2_with fail
    refine (H2.out _).mono ?_
    rintro e _ ⟨rfl, rfl⟩
    go_wp2
    go_ret
    exact ⟨rfl, rfl⟩
  · have e : cmpB x y = 0 := by unfold cmpB; rw [if_neg h, if_neg h']
    rw [e]
    go_enter Tryd.func201, Tryd.ntmps201
    go_wp2_with fail
    refine (H1.out _).mono ?_
    rintro e _ ⟨rfl, rfl⟩
    go_wp2_with fail
    refine (H2.out _).mono ?_
    rintro e _ ⟨rfl, rfl⟩
    go_wp2
    go_ret
    exact ⟨rfl, rfl⟩
/-- The sign of two lists compared, from a place on. -/
def cmpP (x y : Pr) : Int := if cmpB x.1 y.1 ≠ 0 then cmpB x.1 y.1 else cmpB x.2 y.2
theorem cmpP_lt (x y : Pr) : (0 ≤ cmpP x y) = ¬ (x.1 < y.1 ∨ x.1 = y.1 ∧ x.2 < y.2) := by
  unfold cmpP cmpB
  simp only [ne_eq]
  apply propext
  constructor
  · intro h
    repeat' split at h
    all_goals omega
  · intro h
    repeat' split
    all_goals omega
set_option maxRecDepth 100000 in
set_option maxHeartbeats 1000000 in
theorem compareP_any (a b : Addr) (ca cb : Nat) (x y : Pr) (w : World) (h0 : w.cell? a = some (.int .i64 x.1)) (h1 : w.cell? ⟨a.block, a.off + 1, none⟩ = some (.int .i64 x.2)) (g0 : w.cell? b = some (.int .i64 y.1)) (g1 : w.cell? ⟨b.block, b.off + 1, none⟩ = some (.int .i64 y.2)) :
    Calls Tryd.prog 173 #[.slice (some a) 2 ca, .slice (some b) 2 cb] w fun e w' => e = .returned (.int .i64 (cmpP x y)) ∧ w = w' := by
  obtain ⟨x1, x2⟩ := x
  obtain ⟨y1, y2⟩ := y
  simp only at h0 h1 g0 g1
  have H1 := Lib.hid (fun w => cmpI_any x1 y1 w)
  have H2 := Lib.hid (fun w => cmpI_any x2 y2 w)
  have HP : Hid (cmpP (x1, x2) (y1, y2) = if cmpB x1 y1 ≠ 0 then cmpB x1 y1 else cmpB x2 y2) := rfl
  generalize cmpP (x1, x2) (y1, y2) = r at *
  generalize cmpB x1 y1 = r1 at *
  generalize cmpB x2 y2 = r2 at *
  go_enter Tryd.func173, Tryd.ntmps173
  go_wp2
  go_loop [11] (fun i => ∃ k : Nat, k ≤ 2 ∧ i = .int .i64 (k : Int) ∧ Hid (1 ≤ k → r1 = 0) ∧ Hid (2 ≤ k → r2 = 0)) (fun i => 2 - (intOf i).toNat)
  case atStart => exact ⟨0, by omega, rfl, fun h => by omega, fun h => by omega⟩
  case round =>
    obtain ⟨k, hk, rfl, K1, K2⟩ := hrel
    rcases (by omega : k = 0 ∨ k = 1 ∨ k = 2) with rfl | rfl | rfl
    · go_wp2_with fail
      refine (H1.out _).mono ?_
      rintro e _ ⟨rfl, rfl⟩
      by_cases hz : r1 = 0
      · have e1 : (r1 != 0) = false := by simp [hz]
        have HZ := Lib.hid hz
        clear hz
        go_wp2
        go_round
        case rel => exact ⟨1, by omega, by go_num, fun _ => HZ.out, fun h => by omega⟩
        case measure => simp [intOf]
      · have e1 : (r1 != 0) = true := by simp [hz]
        have HZ := Lib.hid hz
        clear hz
        go_wp2
        go_ret
        exact ⟨by rw [show r = r1 by rw [HP.out, if_pos HZ.out]]; rfl, rfl⟩
    · go_wp2_with fail
      refine (H2.out _).mono ?_
      rintro e _ ⟨rfl, rfl⟩
      by_cases hz : r2 = 0
      · have e1 : (r2 != 0) = false := by simp [hz]
        have HZ := Lib.hid hz
        clear hz
        go_wp2
        go_round
        case rel => exact ⟨2, by omega, by go_num, fun _ => K1.out (by omega), fun _ => HZ.out⟩
        case measure => simp [intOf]
      · have e1 : (r2 != 0) = true := by simp [hz]
        have HZ := Lib.hid hz
        clear hz
        go_wp2
        go_ret
        exact ⟨by rw [show r = r2 by rw [HP.out, if_neg (by rw [K1.out (by omega)]; simp)]]; rfl, rfl⟩
    · go_wp2
      go_ret
      exact ⟨by rw [show r = 0 by rw [HP.out, if_neg (by rw [K1.out (by omega)]; simp), K2.out (by omega)]]; rfl, rfl⟩
theorem infoPr : (Tryd.prog.info? 37).map (fun i => (i.zero, i.size, i.bytes)) = some (some (.agg #[.int .i64 0, .int .i64 0]), 2, 16) := by kernel_rfl
theorem edOk_at {n : Int} {E : List Pr} {k : Nat} (h : k < E.length) : edOk n E k = (decide (0 ≤ E[k].1 ∧ E[k].1 < n ∧ 0 ≤ E[k].2 ∧ E[k].2 < n) && (decide (k = 0) || decide ((E.getD (k - 1) (0, 0)).1 < E[k].1 ∨ (E.getD (k - 1) (0, 0)).1 = E[k].1 ∧ (E.getD (k - 1) (0, 0)).2 < E[k].2))) := by
  unfold edOk; rw [getD_at E (0, 0) h]
theorem okPr_of {n : Int} {E : List Pr} {k : Nat} (h : k < E.length) (hr : 0 ≤ min E[k].1 E[k].2 ∧ max E[k].1 E[k].2 < n) (hs : k = 0 ∨ cmpP (E.getD (k - 1) (0, 0)) E[k] < 0) : edOk n E k = true := by
  rw [edOk_at h, Bool.and_eq_true, Bool.or_eq_true, decide_eq_true_eq, decide_eq_true_eq, decide_eq_true_eq]
  refine ⟨by omega, ?_⟩
  rcases hs with h0 | h1
  · exact .inl h0
  · refine .inr (Classical.not_not.1 fun hn => ?_)
    rw [← cmpP_lt] at hn; omega
theorem badPr_range {n : Int} {E : List Pr} {k : Nat} (h : k < E.length) (hr : ¬ (0 ≤ min E[k].1 E[k].2 ∧ max E[k].1 E[k].2 < n)) : edOk n E k = false := by
  rw [edOk_at h, Bool.and_eq_false_iff]
  exact .inl (decide_eq_false (by omega))
theorem badPr_step {n : Int} {E : List Pr} {k : Nat} (h : k < E.length) (h0 : 0 < k) (hs : 0 ≤ cmpP (E.getD (k - 1) (0, 0)) E[k]) : edOk n E k = false := by
  rw [edOk_at h, Bool.and_eq_false_iff]
  refine .inr ?_
  rw [Bool.or_eq_false_iff]
  exact ⟨decide_eq_false (by omega), decide_eq_false (by rw [← cmpP_lt]; omega)⟩
set_option maxRecDepth 100000 in
set_option maxHeartbeats 2000000 in
theorem arePairs_any (A : Option Addr) (c : Nat) (n : Int) (E : List Pr) (w : World) (hr : Row w A (pc E)) (hl : E.length ≤ 10000000) :
    Calls Tryd.prog 190 #[.int .i64 n, .slice A E.length c] w fun e w' => e = .returned (.bool (decide (E.length ≤ 28) && pairsTo n E E.length)) ∧ Below w.heap.size w w' := by
  by_cases h28 : E.length ≤ 28
  · have hc : ((E.length : Int) > 28) = False := by simp; omega
    have HRES : Hid ((decide (E.length ≤ 28) && pairsTo n E E.length) = pairsTo n E E.length) := by show _ = _; rw [decide_eq_true h28]; rfl
    generalize (decide (E.length ≤ 28) && pairsTo n E E.length) = res at *
    go_enter Tryd.func190, Tryd.ntmps190
    go_wp2
    go_loopw [12] (fun i wr => ∃ k : Nat, k ≤ E.length ∧ i = .int .i64 (k : Int) ∧ Hid (pairsTo n E k = true) ∧ Below w.heap.size w wr) (fun i _ => E.length - (intOf i).toNat)
    case atStart => exact ⟨0, Nat.zero_le _, rfl, rfl, Below.refl _ _⟩
    case round =>
      obtain ⟨k, hk, rfl, hT, hb⟩ := hrel
      by_cases hlt : k < E.length
      · obtain ⟨ad, hA, hbl, hc0, hc1⟩ := (hr.below hb).pair hlt
        subst hA
        have hbn := hb.alloc hb.size (.cells #[.int .i64 E[k].1, .int .i64 E[k].2] 37)
        have hBn := BlockIs.new wr 37 #[.int .i64 E[k].1, .int .i64 E[k].2]
        have d0 := hBn.cell 0
        have d1 := hBn.cell 1
        simp only [List.getElem?_toArray, List.getElem?_cons_zero, List.getElem?_cons_succ] at d0 d1
        have HN := Lib.hid hbn
        have hk0 : (0 : Int) ≤ k := by omega
        have hk1 : (k : Int) < E.length := by omega
        have hOK : (0 ≤ min E[k].1 E[k].2 ∧ max E[k].1 E[k].2 < n) → (k = 0 ∨ cmpP (E.getD (k - 1) (0, 0)) E[k] < 0) → pairsTo n E (k + 1) = true := fun a b => by rw [pairsTo_succ, hT.out, okPr_of hlt a b]; rfl
        have hB1 : ¬ (0 ≤ min E[k].1 E[k].2 ∧ max E[k].1 E[k].2 < n) → edOk n E k = false := badPr_range hlt
        have hB2 : 0 < k → 0 ≤ cmpP (E.getD (k - 1) (0, 0)) E[k] → edOk n E k = false := badPr_step hlt
        have HBAD : Hid (edOk n E k = false → res = false) := fun h => HRES.out.trans (pairsTo_bad hlt h)
        by_cases hkz : k = 0
        · have g0 : ((k : Int) > 0) = False := by simp; omega
          have g1 : decide (0 < k) = false := by simp; omega
          have HS : Hid (k = 0 ∨ cmpP (E.getD (k - 1) (0, 0)) E[k] < 0) := .inl hkz
          clear hkz hbn hBn hb hr hB2
          generalize E[k] = x at *
          go_wp2
          go_quiet (fail)
          by_cases hR : 0 ≤ min x.1 x.2 ∧ max x.1 x.2 < n
          · have HOK := Lib.hid (hOK hR (HS.out))
            have hR1 := hR.1
            have hR2 := hR.2
            clear hR hOK hB1 HBAD
            go_wp2
            all_goals
              go_roundw
              case rel => exact ⟨k + 1, by omega, by go_num, HOK.out, below_drewN HN.out _⟩
              case measure => simp [intOf]; omega
          · have HOK := Lib.hid (hB1 hR)
            have HB := HBAD
            clear hOK hB1 HBAD
            by_cases h1 : min x.1 x.2 < 0
            · go_wp2
              all_goals
                go_ret
                exact ⟨by rw [HB.out HOK.out]; rfl, below_drewN HN.out _⟩
            · have h2 : n ≤ max x.1 x.2 := by omega
              go_wp2
              all_goals
                go_ret
                exact ⟨by rw [HB.out HOK.out]; rfl, below_drewN HN.out _⟩
        · have g1 : decide (0 < k) = true := by simp; omega
          obtain ⟨m, hm⟩ : ∃ m : Nat, m = k - 1 := ⟨_, rfl⟩
          have hmk : m < E.length := by omega
          obtain ⟨ad', hA', hbl', hm0, hm1⟩ := (hr.below hbn).pair hmk
          obtain rfl : ad = ad' := Option.some.inj hA'
          have em : (k : Int) - 1 = (m : Int) := by omega
          have ew : IntKind.i64.wrap (m : Int) = (m : Int) := IntWalk.i64_in _ (by omega)
          have HM := Lib.hid (show E.getD (k - 1) (0, 0) = E[m] by rw [← hm]; exact getD_at E (0, 0) hmk)
          have hm2 : (m : Int) < E.length := by omega
          clear hm hkz hbn hBn hb hr
          generalize E[m] = y at *
          generalize E[k] = x at *
          obtain ⟨r, hCR⟩ : ∃ r, cmpP y x = r := ⟨_, rfl⟩
          have HCR := Lib.hid hCR
          have HC := Lib.hid (fun q => hCR ▸ compareP_any (ad.add (m * 2)) ⟨wr.heap.size, 0, none⟩ 2 2 y x ((wr.alloc (.cells #[.int .i64 x.1, .int .i64 x.2] 37)).drewN q) hm0 hm1 d0 d1)
          clear hCR
          go_wp2
          go_quiet ((go_at_call 173; first | exact quiet_same (HC.out _) | exact quiet_eq (HC.out _)))
          have HCM : Hid (cmpP (E.getD (k - 1) (0, 0)) x = r) := by show _ = _; rw [HM.out, HCR.out]
          by_cases hr0 : 0 ≤ r
          · have HOK := Lib.hid (hB2 (by omega) (by rw [HCM.out]; exact hr0))
            have HB := HBAD
            clear hOK hB1 hB2 HBAD
            go_wp2
            go_ret
            exact ⟨by rw [HB.out HOK.out]; rfl, below_drewN HN.out _⟩
          · have HS : Hid (k = 0 ∨ cmpP (E.getD (k - 1) (0, 0)) x < 0) := .inr (by rw [HCM.out]; omega)
            clear hB2
            by_cases hR : 0 ≤ min x.1 x.2 ∧ max x.1 x.2 < n
            · have HOK := Lib.hid (hOK hR (HS.out))
              have hR1 := hR.1
              have hR2 := hR.2
              clear hR hOK hB1 HBAD
              go_wp2
              all_goals
                go_roundw
                case rel => exact ⟨k + 1, by omega, by go_num, HOK.out, below_drewN HN.out _⟩
                case measure => simp [intOf]; omega
            · have HOK := Lib.hid (hB1 hR)
              have HB := HBAD
              clear hOK hB1 HBAD
              by_cases h1 : min x.1 x.2 < 0
              · go_wp2
                all_goals
                  go_ret
                  exact ⟨by rw [HB.out HOK.out]; rfl, below_drewN HN.out _⟩
              · have h2 : n ≤ max x.1 x.2 := by omega
                go_wp2
                all_goals
                  go_ret
                  exact ⟨by rw [HB.out HOK.out]; rfl, below_drewN HN.out _⟩
      · obtain rfl : k = E.length := by omega
        go_wp2
        go_ret
        exact ⟨by rw [HRES.out, hT.out]; rfl, hb⟩
  · have HRES : (decide (E.length ≤ 28) && pairsTo n E E.length) = false := by rw [decide_eq_false h28]; rfl
    rw [HRES]
    have hc : (28 : Int) < E.length := by omega
    go_enter Tryd.func190, Tryd.ntmps190
    go_wp2
    go_ret
    exact ⟨rfl, Below.refl _ _⟩
end Go.Proofs.YtjemjdlaoebffaaDoor
