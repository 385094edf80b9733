/- TieGroups of the program; CountRuled of both. -/
import Derived.Test.YtpjjjbkjkhcbdaaGrpI
namespace Go.Proofs.Ytpjjjbkjkhcbdaa
open Go.RowKit
def cntRuledR (js : List J) (o : Int) : Int × Bool := if ruledB js o then ((prodF (groupsL o js) : Nat), true) else (0, false)
theorem prodF_take {gs : List (List Nat)} {i : Nat} (hi : i < gs.length) : prodF (gs.take (i + 1)) = prodF (gs.take i) * facN gs[i].length := by
  rw [List.take_succ_eq_append_getElem hi, prodF_snoc]
theorem flat_take (gs : List (List Nat)) (i : Nat) : (gs.take i).flatten.length ≤ gs.flatten.length := by
  have h := congrArg (fun l => l.flatten.length) (List.take_append_drop i gs)
  simp only [List.flatten_append, List.length_append] at h
  omega
theorem fac_one (a : Nat) : facN (a + 1) = facN a * (a + 1) := rfl
/-- What a product that grows by one more number is, and that it is small. -/
theorem fac_bd {gs : List (List Nat)} (h8 : gs.flatten.length ≤ 8) {i : Nat} (hi : i < gs.length) {a : Nat} (ha : a ≤ gs[i].length) : prodF (gs.take i) * facN a ≤ 40320 := by
  have h1 := prodF_8 (gs := gs.take (i + 1)) (Nat.le_trans (flat_take gs _) h8)
  rw [prodF_take hi] at h1
  exact Nat.le_trans (Nat.mul_le_mul_left _ (fac_mono ha)) h1
theorem mul_in (a k : Nat) (h : a * k ≤ 40320) : IntKind.i64.wrap ((a : Int) * (k : Int)) = ((a * k : Nat) : Int) := by
  rw [show (a : Int) * (k : Int) = ((a * k : Nat) : Int) from (Int.natCast_mul a k).symm]
  exact IntWalk.i64_in _ (by omega)
theorem groups_8 {js : List J} (o : Int) (hg : goodL js = true) : (groupsL o js).flatten.length ≤ 8 := by
  rw [groups_flat, ruledL_len]; exact (good_out hg).1
theorem group_8 {gs : List (List Nat)} (h8 : gs.flatten.length ≤ 8) {i : Nat} (hi : i < gs.length) : gs[i].length ≤ 8 := by
  have h := flat_take gs (i + 1)
  rw [List.take_succ_eq_append_getElem hi, List.flatten_append, List.length_append] at h
  simp only [List.flatten_cons, List.flatten_nil, List.append_nil] at h
  omega
theorem fac_end {z len : Nat} (h1 : z ≤ len ∨ z = 1) (h2 : ¬ z + 1 ≤ len) : facN z = facN len := by
  rcases h1 with h | h
  · rw [show z = len by omega]
  · subst h
    have : len = 0 ∨ len = 1 := by omega
    rcases this with h | h <;> subst h <;> rfl
/-- One of the groups, where it lies. -/
theorem group_at {vs : List (Option Addr × Nat)} {B C : Nat} {w : World} {A : Option Addr} {c : Nat} {gs : List (List Nat)} (h : OwnV vs B C w (.slice A (csS gs).length c) (csS gs)) {i : Nat} (hi : i < gs.length) :
    ∃ a A' c', A = some a ∧ w.cell? (a.add i) = some (.slice A' gs[i].length c') := by
  have hi' : i < (csS gs).length := by rw [csS_len]; exact hi
  obtain ⟨g, cur, rfl, _⟩ := own_block h.2.1 (by omega)
  have := h.at_ hi'
  have hl : (csS gs)[i].length = gs[i].length := by simp [csS, csS.gs1, ic_len]
  rw [hl] at this
  have e : (⟨g, 0, none⟩ : Addr).add i = ⟨g, i, none⟩ := by
    unfold Addr.add
    by_cases hz : i = 0
    · subst hz; rfl
    · rw [if_neg hz]; simp
  exact ⟨⟨g, 0, none⟩, _, _, rfl, by rw [e]; exact this⟩
section
variable (A : Option Addr) (c : Nat) (js : List J) (o : Int) (w : World) (hr : Row w A (jc js)) (hn : js.length ≤ 10000000)
include hr hn
set_option maxRecDepth 100000 in
set_option maxHeartbeats 1000000 in
theorem impl_TieGroups : Calls Try.prog 55 #[.slice A js.length c, .int .i64 o] w (RetSSB w (groupR js o)) := by
  have HR : Hid (groupR js o = if ruledB js o then ((groupsL o js).map fun g => g.map Int.ofNat, true) else ([], false)) := rfl
  go_enter Try.func55, Try.ntmps55
  go_wp2_with fail
  refine (ruleOf_any A c js o w hr hn).mono ?_
  rintro e w1 ⟨hb1, ⟨hu, rfl⟩ | ⟨hu, b, rfl, hB, hbs⟩⟩
  · rw [hu] at HR
    go_wp2
    go_ret2
    exact ret_emptySS HR.out hb1 _ rfl
  · rw [hu] at HR
    have HC := Lib.hid (tieGroups_any (b := b) (A := A) (c := c) (isRule_of hu) (ruled_good hu) w1 hB (hr.below hb1))
    have HB := Lib.hid hb1
    clear hB hu hb1
    unfold fRule at *
    generalize fRuleN o = f at *
    go_wp2_with fail
    refine HC.out.mono ?_
    rintro e w2 ⟨v, vs, C, rfl, hC, hV, hb2⟩
    have HO := Lib.hid (And.intro (hV.lowB HB.out.size) (And.intro (Nat.le_trans HB.out.size hC) (HB.out.trans (hb2.mono HB.out.size))))
    clear hV hC hb2
    go_wp2
    go_ret2
    exact ret_ownSS HR.out HO.out.2.1 HO.out.1 HO.out.2.2 _ rfl
set_option maxRecDepth 100000 in
set_option maxHeartbeats 2000000 in
theorem spec_CountRuled : Calls Try.prog 59 #[.slice A js.length c, .int .i64 o] w (RetNB w (cntRuledR js o)) := by
  have HR : Hid (cntRuledR js o = if ruledB js o then (((prodF (groupsL o js) : Nat) : Int), true) else (0, false)) := rfl
  cases hu : ruledB js o
  · rw [hu] at HR
    go_enter Try.func59, Try.ntmps59
    go_wp2_with fail
    refine (l3Ruled_any A c js o _ hr hn).mono ?_
    rintro e w1 ⟨rfl, hb1⟩
    rw [hu]
    go_wp2
    go_ret2
    exact ⟨by rw [HR.out]; rfl, hb1⟩
  · rw [hu] at HR
    have HU := Lib.hid hu
    have H8 := Lib.hid (groups_8 o (ruled_good hu))
    go_enter Try.func59, Try.ntmps59
    go_wp2_with fail
    refine (l3Ruled_any A c js o _ hr hn).mono ?_
    rintro e w1 ⟨rfl, hb1⟩
    rw [hu]
    clear hu
    go_wp2_with fail
    refine (l3Groups_any A c js o _ (hr.below hb1) (ruled_good HU.out) (isRule_of HU.out)).mono ?_
    rintro e w2 ⟨v, vs, C, rfl, hC, hV, hb2⟩
    obtain ⟨Av, cv, rfl, _, _⟩ := own_slice hV.2.1
    have HV := Lib.hid hV
    have HB := Lib.hid (hb1.trans (hb2.mono hb1.size))
    clear hV hC hb1 hb2
    generalize groupsL o js = gs at *
    have HGL := Lib.hid (csS_len gs)
    rw [HGL.out] at HV ⊢
    have HV2 : Hid (OwnV vs w1.heap.size C w2 (.slice Av (csS gs).length cv) (csS gs)) := by rw [HGL.out]; exact HV
    clear HV
    have hgl := (Seg.of_own HV2.out.2.1).bound
    rw [HGL.out] at hgl
    unfold maxLen at hgl
    go_wp2
    go_loopw [6, 8] (fun p i wr => ∃ k : Nat, k ≤ gs.length ∧ i = .int .i64 (k : Int) ∧ p = .int .i64 ((prodF (gs.take k) : Nat) : Int) ∧ wr = w2) (fun _ i _ => gs.length - (intOf i).toNat)
    case atStart => exact ⟨0, Nat.zero_le _, rfl, rfl, rfl⟩
    case round =>
      obtain ⟨k, hk, rfl, rfl, rfl⟩ := hrel
      by_cases hlt : k < gs.length
      · have hk0 : (0 : Int) ≤ k := by omega
        have hk1 : (k : Int) < gs.length := by omega
        obtain ⟨av, A', c', rfl, hc⟩ := group_at HV2.out hlt
        have HP := Lib.hid (prodF_take hlt)
        have HBD := Lib.hid (fun a h => fac_bd (a := a) H8.out hlt h)
        have hl8 := group_8 H8.out hlt
        generalize gs[k].length = len at *
        generalize prodF (gs.take k) = P at *
        have hP1 : Hid (P = P * facN 1) := by show _ = _; simp [facN]
        go_wp2
        go_loopw [6, 9] (fun p j wi => ∃ (z : Nat) (q : Nat), 1 ≤ z ∧ (z ≤ len ∨ z = 1) ∧ j = .int .i64 ((z : Int) + 1) ∧ p = .int .i64 (q : Int) ∧ Hid (q = P * facN z) ∧ wi = wr) (fun _ j _ => len + 1 - (intOf j).toNat)
        case atStart => exact ⟨1, P, Nat.le_refl _, .inr rfl, rfl, rfl, hP1, rfl⟩
        case round =>
          obtain ⟨z, q, hz1, hzl, rfl, rfl, hq, rfl⟩ := hrel
          by_cases hz : z + 1 ≤ len
          · have hzi : (z : Int) + 1 ≤ (len : Int) := by omega
            have hdz : decide ((z : Int) + 1 ≤ (len : Int)) = true := decide_eq_true hzi
            have hqz : q * (z + 1) ≤ 40320 := by
              rw [hq.out, Nat.mul_assoc, ← fac_one]
              exact HBD.out (z + 1) hz
            have hmul := mul_in q (z + 1) hqz
            have hcs := Int.natCast_mul q (z + 1)
            rw [show ((z + 1 : Nat) : Int) = (z : Int) + 1 by omega] at hmul hcs
            rw [hcs] at hmul
            have HM := Lib.hid hcs
            have HQ : Hid (q * (z + 1) = P * facN (z + 1)) := by show _ = _; rw [hq.out, Nat.mul_assoc, ← fac_one]
            have hz0 : (0 : Int) ≤ z := by omega
            have hz9 : (z : Int) ≤ 8 := by omega
            clear hcs hqz hq
            go_wp2
            go_roundw
            case rel => exact ⟨z + 1, q * (z + 1), by omega, .inl hz, by go_num, by rw [HM.out], HQ, by first | trivial | rfl⟩
            case measure => simp [intOf]; omega
          · have hzi : ¬ (z : Int) + 1 ≤ (len : Int) := by omega
            have hdz : decide ((z : Int) + 1 ≤ (len : Int)) = false := decide_eq_false hzi
            have HQ : Hid (((prodF (gs.take (k + 1)) : Nat) : Int) = (q : Int)) := by show _ = _; rw [HP.out, hq.out, fac_end hzl hz]
            clear hq hzl hz
            go_wp2
            go_roundw
            case rel => exact ⟨k + 1, by omega, by go_num, by rw [HQ.out], by first | trivial | rfl⟩
            case measure => simp [intOf]; omega
      · obtain rfl : k = gs.length := by omega
        have HT : Hid (gs.take gs.length = gs) := List.take_length
        rw [HT.out]
        clear HT
        go_wp2
        go_ret2
        exact ⟨by rw [HR.out]; rfl, HB.out⟩
set_option maxRecDepth 100000 in
set_option maxHeartbeats 2000000 in
theorem impl_CountRuled : Calls Try.prog 60 #[.slice A js.length c, .int .i64 o] w (RetNB w (cntRuledR js o)) := by
  have HR : Hid (cntRuledR js o = if ruledB js o then (((prodF (groupsL o js) : Nat) : Int), true) else (0, false)) := rfl
  go_enter Try.func60, Try.ntmps60
  go_wp2_with fail
  refine (ruleOf_any A c js o w hr hn).mono ?_
  rintro e w1 ⟨hb1, ⟨hu, rfl⟩ | ⟨hu, b, rfl, hB, hbs⟩⟩
  · rw [hu] at HR
    go_wp2
    go_ret2
    exact ⟨by rw [HR.out]; rfl, hb1⟩
  · rw [hu] at HR
    have H8 := Lib.hid (groups_8 o (ruled_good hu))
    have HC := Lib.hid (tieGroups_any (b := b) (A := A) (c := c) (isRule_of hu) (ruled_good hu) w1 hB (hr.below hb1))
    have HB1 := Lib.hid hb1
    clear hB hu hb1
    unfold fRule at *
    generalize fRuleN o = f at *
    go_wp2_with fail
    refine HC.out.mono ?_
    rintro e w2 ⟨v, vs, C, rfl, hC, hV, hb2⟩
    obtain ⟨Av, cv, rfl, _, _⟩ := own_slice hV.2.1
    have HV := Lib.hid hV
    have HB := Lib.hid (HB1.out.trans (hb2.mono HB1.out.size))
    clear hV hC hb2 HC
    generalize groupsL o js = gs at *
    have HGL := Lib.hid (csS_len gs)
    rw [HGL.out] at HV ⊢
    have HV2 : Hid (OwnV vs w1.heap.size C w2 (.slice Av (csS gs).length cv) (csS gs)) := by rw [HGL.out]; exact HV
    clear HV
    have hgl := (Seg.of_own HV2.out.2.1).bound
    rw [HGL.out] at hgl
    unfold maxLen at hgl
    go_wp2
    go_loopw [8, 25] (fun p i wr => ∃ k : Nat, k ≤ gs.length ∧ i = .int .i64 (k : Int) ∧ p = .int .i64 ((prodF (gs.take k) : Nat) : Int) ∧ wr = w2) (fun _ i _ => gs.length - (intOf i).toNat)
    case atStart => exact ⟨0, Nat.zero_le _, rfl, rfl, rfl⟩
    case round =>
      obtain ⟨k, hk, rfl, rfl, rfl⟩ := hrel
      by_cases hlt : k < gs.length
      · have hk0 : (0 : Int) ≤ k := by omega
        have hk1 : (k : Int) < gs.length := by omega
        obtain ⟨av, A', c', rfl, hc⟩ := group_at HV2.out hlt
        have HP := Lib.hid (prodF_take hlt)
        have HBD := Lib.hid (fun a h => fac_bd (a := a) H8.out hlt h)
        have hl8 := group_8 H8.out hlt
        generalize gs[k].length = len at *
        generalize prodF (gs.take k) = P at *
        have hP1 : Hid (P = P * facN 0) := by show _ = _; simp [facN]
        go_wp2
        go_loopw [8, 31] (fun p j wi => ∃ (z : Nat) (q : Nat), z ≤ len ∧ j = .int .i64 (z : Int) ∧ p = .int .i64 (q : Int) ∧ Hid (q = P * facN z) ∧ wi = wr) (fun _ j _ => len - (intOf j).toNat)
        case atStart => exact ⟨0, P, Nat.zero_le _, rfl, rfl, hP1, rfl⟩
        case round =>
          obtain ⟨z, q, hzl, rfl, rfl, hq, rfl⟩ := hrel
          by_cases hz : z < len
          · have hzi : (z : Int) < (len : Int) := by omega
            have hqz : q * (z + 1) ≤ 40320 := by
              rw [hq.out, Nat.mul_assoc, ← fac_one]
              exact HBD.out (z + 1) (by omega)
            have hmul := mul_in q (z + 1) hqz
            have hcs := Int.natCast_mul q (z + 1)
            rw [show ((z + 1 : Nat) : Int) = (z : Int) + 1 by omega] at hmul hcs
            rw [hcs] at hmul
            have HM := Lib.hid hcs
            have HQ : Hid (q * (z + 1) = P * facN (z + 1)) := by show _ = _; rw [hq.out, Nat.mul_assoc, ← fac_one]
            have hz0 : (0 : Int) ≤ z := by omega
            have hz9 : (z : Int) ≤ 8 := by omega
            clear hcs hqz hq
            go_wp2
            go_roundw
            case rel => exact ⟨z + 1, q * (z + 1), by omega, by go_num, by rw [HM.out], HQ, by first | trivial | rfl⟩
            case measure => simp [intOf]; omega
          · obtain rfl : z = len := by omega
            have HQ : Hid (((prodF (gs.take (k + 1)) : Nat) : Int) = (q : Int)) := by show _ = _; rw [HP.out, hq.out]
            clear hq
            go_wp2
            go_roundw
            case rel => exact ⟨k + 1, by omega, by go_num, by rw [HQ.out], by first | trivial | rfl⟩
            case measure => simp [intOf]; omega
      · obtain rfl : k = gs.length := by omega
        have HT : Hid (gs.take gs.length = gs) := List.take_length
        rw [HT.out]
        clear HT
        go_wp2
        go_ret2
        exact ⟨by rw [HR.out]; rfl, HB.out⟩
end
end Go.Proofs.Ytpjjjbkjkhcbdaa
