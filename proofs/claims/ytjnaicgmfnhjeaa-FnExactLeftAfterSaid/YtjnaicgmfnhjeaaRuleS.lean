/- Rules: the model's. RuleDifference of both. -/
import Derived.Test.YtjnaicgmfnhjeaaRule
import Derived.RegionTactic
import Derived.BigRegion
namespace Go.Proofs.Ytjnaicgmfnhjeaa
open Go.RowKit
theorem ruled_eq (js : List J) (ob : Int) : ruledB js ob = (goodL js && (inB ob 1 4 && (decide (ob = 1) || plain0 js))) := rfl
section
variable (A : Option Addr) (c : Nat) (js : List J) (ob : Int) (w : World) (hr : Row w A (jc js)) (hn : js.length ≤ 10000000)
include hr hn
theorem l3Ruled_any : Calls Try.prog 104 #[.slice A js.length c, .int .i64 ob] w fun e w' => e = .returned (.bool (ruledB js ob)) ∧ Below w.heap.size w w' := by
  have HT := Lib.hid (ruled_eq js ob)
  cases hg : goodL js
  · go_enter Try.func104, Try.ntmps104
    go_wp2_with fail
    refine (l2Good_any A c js _ hr (by omega)).mono ?_
    rintro e w1 ⟨rfl, hb1⟩
    rw [hg]
    go_wp2
    go_ret
    exact ⟨by rw [HT.out, hg]; rfl, hb1⟩
  · cases hin : inB ob 1 4
    · go_enter Try.func104, Try.ntmps104
      go_wp2_with fail
      refine (l2Good_any A c js _ hr (by omega)).mono ?_
      rintro e w1 ⟨rfl, hb1⟩
      rw [hg]
      go_wp2_with fail
      refine (l1In_any _ _ _ _).mono ?_
      rintro e _ ⟨rfl, rfl⟩
      rw [hin]
      go_wp2
      go_ret
      exact ⟨by rw [HT.out, hg, hin]; rfl, hb1⟩
    · by_cases h1 : ob = 1
      · subst h1
        go_enter Try.func104, Try.ntmps104
        go_wp2_with fail
        refine (l2Good_any A c js _ hr (by omega)).mono ?_
        rintro e w1 ⟨rfl, hb1⟩
        rw [hg]
        go_wp2_with fail
        refine (l1In_any _ _ _ _).mono ?_
        rintro e _ ⟨rfl, rfl⟩
        rw [hin]
        go_wp2
        go_ret
        exact ⟨by rw [HT.out, hg]; rfl, hb1⟩
      · have e0 : (ob == 1) = false := beq_eq_false_iff_ne.2 h1
        go_enter Try.func104, Try.ntmps104
        go_wp2_with fail
        refine (l2Good_any A c js _ hr (by omega)).mono ?_
        rintro e w1 ⟨rfl, hb1⟩
        rw [hg]
        go_wp2_with fail
        refine (l1In_any _ _ _ _).mono ?_
        rintro e _ ⟨rfl, rfl⟩
        rw [hin]
        go_wp2_with fail
        refine (l3Plain_any A c js _ (hr.below hb1) (by omega)).mono ?_
        rintro e w2 ⟨rfl, hb2⟩
        have HE : Hid (ruledB js ob = plain0 js) := by
          show _ = _
          rw [HT.out, hg, hin, decide_eq_false h1]; simp
        go_wp2
        go_ret
        exact ⟨by rw [HE.out]; rfl, hb1.trans (hb2.mono hb1.size)⟩
end
section
variable (A : Option Addr) (c : Nat) (js : List J) (ob : Int) (w : World) (hr : Row w A (jc js)) (hg : ∀ j ∈ js, okJ j = true) (i k : Nat) (hi : i < js.length) (hk : k < js.length)
include hr hg hi hk
set_option maxRecDepth 100000 in
set_option maxHeartbeats 1000000 in
theorem l3Gap_any (ho : isRule ob = true) : Calls Try.prog 155 #[.slice A js.length c, .int .i64 ob, .int .i64 (i : Int), .int .i64 (k : Int)] w fun e w' => e = .returned (.int .i64 (gapN ob js i k)) ∧ Below w.heap.size w w' := by
  obtain ⟨ad, rfl, hadb, a0, a1, a2, a3⟩ := hr.job hi
  obtain ⟨ad', hA', _, b0, b1, b2, b3⟩ := hr.job hk
  injection hA' with hA'
  subst hA'
  have hbi : (ad.add (i * 4)).block < w.heap.size := by rw [add_block]; exact hadb
  have hbk : (ad.add (k * 4)).block < w.heap.size := by rw [add_block]; exact hadb
  obtain ⟨x1, x2, x3, x4, x5, x6, x7, x8⟩ := okJ_out (hg _ (List.getElem_mem hi))
  obtain ⟨y1, y2, y3, y4, y5, y6, y7, y8⟩ := okJ_out (hg _ (List.getElem_mem hk))
  have HG : Hid (gapN ob js i k = gapJ ob js[i] js[k]) := by show _ = _; unfold gapN; rw [getD_at js j0 hi, getD_at js j0 hk]
  have hi0 : (0 : Int) ≤ i := by omega
  have hi1 : (i : Int) < js.length := by omega
  have hk0 : (0 : Int) ≤ k := by omega
  have hk1 : (k : Int) < js.length := by omega
  clear hr hg
  generalize js[i] = x at *
  generalize js[k] = y at *
  have m1 := mul50 (by omega) x2 y3 y4
  have m2 := mul50 (by omega) y2 x3 x4
  rcases isRule_out ho with rfl | rfl | rfl | rfl
  all_goals
    clear ho
    go_enter Try.func155, Try.ntmps155
    go_wp2
    go_region
    all_goals
     go_wp2
     go_ret
     exact ⟨by rw [HG.out]; rfl, (((Below.refl _ _).alloc (Nat.le_refl _) _).alloc (by simp) _).drew⟩
end
theorem l3Job_any (A : Option Addr) (c n : Nat) (i : Int) (w : World) (hn : n ≤ 10000000) : Calls Try.prog 154 #[.slice A n c, .int .i64 i] w fun e w' => e = .returned (.bool (inB i 0 ((n : Int) - 1))) ∧ w = w' := by
  go_enter Try.func154, Try.ntmps154
  go_wp2_with fail
  refine (l1In_any _ _ _ _).mono ?_
  rintro e _ ⟨rfl, rfl⟩
  go_wp2
  go_ret
  exact ⟨rfl, rfl⟩
def jobB (n : Nat) (i : Int) : Bool := inB i 0 ((n : Int) - 1)
theorem job_out {n : Nat} {i : Int} (h : jobB n i = true) : ∃ k : Nat, i = (k : Int) ∧ k < n := by
  have := inB_out h
  exact ⟨i.toNat, by omega, by omega⟩
def diffR (js : List J) (ob i k : Int) : Int × Bool := if ruledB js ob && (jobB js.length i && jobB js.length k) then (gapN ob js i.toNat k.toNat, true) else (0, false)
section
variable (A : Option Addr) (c : Nat) (js : List J) (ob i k : Int) (w : World) (hr : Row w A (jc js)) (hn : js.length ≤ 10000000)
include hr hn
set_option maxRecDepth 100000 in
theorem spec_RuleDifference : Calls Try.prog 84 #[.slice A js.length c, .int .i64 ob, .int .i64 i, .int .i64 k] w (RetNB w (diffR js ob i k)) := by
  have HR : Hid (diffR js ob i k = if ruledB js ob && (jobB js.length i && jobB js.length k) then (gapN ob js i.toNat k.toNat, true) else (0, false)) := rfl
  have HI : Hid (jobB js.length i = inB i 0 ((js.length : Int) - 1)) := rfl
  have HK : Hid (jobB js.length k = inB k 0 ((js.length : Int) - 1)) := rfl
  cases hu : ruledB js ob
  · rw [hu] at HR
    go_enter Try.func84, Try.ntmps84
    go_wp2_with fail
    refine (l3Ruled_any A c js ob _ hr hn).mono ?_
    rintro e w1 ⟨rfl, hb1⟩
    rw [hu]
    go_wp2
    go_ret2
    exact ⟨by rw [HR.out]; rfl, hb1⟩
  · rw [hu] at HR
    cases hji : jobB js.length i
    · rw [hji] at HR HI
      go_enter Try.func84, Try.ntmps84
      go_wp2_with fail
      refine (l3Ruled_any A c js ob _ hr hn).mono ?_
      rintro e w1 ⟨rfl, hb1⟩
      rw [hu]
      go_wp2_with fail
      refine (l3Job_any _ _ _ _ _ hn).mono ?_
      rintro e _ ⟨rfl, rfl⟩
      rw [← HI.out]
      go_wp2
      go_ret2
      exact ⟨by rw [HR.out]; rfl, hb1⟩
    · cases hjk : jobB js.length k
      · rw [hji] at HR HI
        rw [hjk] at HR HK
        go_enter Try.func84, Try.ntmps84
        go_wp2_with fail
        refine (l3Ruled_any A c js ob _ hr hn).mono ?_
        rintro e w1 ⟨rfl, hb1⟩
        rw [hu]
        go_wp2_with fail
        refine (l3Job_any _ _ _ i _ hn).mono ?_
        rintro e _ ⟨rfl, rfl⟩
        rw [← HI.out]
        go_wp2_with fail
        refine (l3Job_any _ _ _ k _ hn).mono ?_
        rintro e _ ⟨rfl, rfl⟩
        rw [← HK.out]
        go_wp2
        go_ret2
        exact ⟨by rw [HR.out]; rfl, hb1⟩
      · rw [hji] at HR HI
        rw [hjk] at HR HK
        obtain ⟨i, rfl, hi⟩ := job_out hji
        obtain ⟨k, rfl, hk⟩ := job_out hjk
        obtain ⟨_, hok⟩ := good_out (ruled_good hu)
        rw [Int.toNat_natCast, Int.toNat_natCast] at HR
        clear hji hjk
        have ho : isRule ob = true := by
          have h := hu
          unfold ruledB at h
          simp only [Bool.and_eq_true] at h
          exact h.2.1
        go_enter Try.func84, Try.ntmps84
        go_wp2_with fail
        refine (l3Ruled_any A c js ob _ hr hn).mono ?_
        rintro e w1 ⟨rfl, hb1⟩
        rw [hu]
        go_wp2_with fail
        refine (l3Job_any _ _ _ _ _ hn).mono ?_
        rintro e _ ⟨rfl, rfl⟩
        rw [← HI.out]
        go_wp2_with fail
        refine (l3Job_any _ _ _ _ _ hn).mono ?_
        rintro e _ ⟨rfl, rfl⟩
        rw [← HK.out]
        go_wp2_with fail
        refine (l3Gap_any A c js ob _ (hr.below hb1) hok i k hi hk ho).mono ?_
        rintro e w2 ⟨rfl, hb2⟩
        go_wp2
        go_ret2
        exact ⟨by rw [HR.out]; rfl, hb1.trans (hb2.mono hb1.size)⟩
set_option maxRecDepth 100000 in
set_option maxHeartbeats 1000000 in
theorem impl_RuleDifference : Calls Try.prog 53 #[.slice A js.length c, .int .i64 ob, .int .i64 i, .int .i64 k] w (RetNB w (diffR js ob i k)) := by
  have HR : Hid (diffR js ob i k = if ruledB js ob && (jobB js.length i && jobB js.length k) then (gapN ob js i.toNat k.toNat, true) else (0, false)) := rfl
  go_enter Try.func53, Try.ntmps53
  go_wp2_with fail
  refine (ruleOf_any A c js ob w hr hn).mono ?_
  rintro e w1 ⟨hb1, ⟨hu, rfl⟩ | ⟨hu, b, rfl, hB, hbs⟩⟩
  · rw [hu] at HR
    go_wp2
    go_ret2
    exact ⟨by rw [HR.out]; rfl, hb1⟩
  · rw [hu] at HR
    have hg := ruled_good hu
    have ho : isRule ob = true := by
      have h := hu
      unfold ruledB at h
      simp only [Bool.and_eq_true] at h
      exact h.2.1
    obtain ⟨h8, _⟩ := good_out hg
    by_cases c1 : i < 0
    · have hji : jobB js.length i = false := decide_eq_false (by omega)
      rw [hji] at HR
      have HB := Lib.hid hb1
      clear hb1 hB
      unfold fRule
      generalize fRuleN ob = f at *
      go_wp2
      go_ret2
      exact ⟨by rw [HR.out]; rfl, HB.out⟩
    · by_cases c2 : (js.length : Int) ≤ i
      · have hji : jobB js.length i = false := decide_eq_false (by omega)
        rw [hji] at HR
        have HB := Lib.hid hb1
        clear hb1 hB
        unfold fRule
        generalize fRuleN ob = f at *
        go_wp2
        go_ret2
        exact ⟨by rw [HR.out]; rfl, HB.out⟩
      · have hji : jobB js.length i = true := decide_eq_true (by omega)
        rw [hji] at HR
        by_cases c3 : k < 0
        · have hjk : jobB js.length k = false := decide_eq_false (by omega)
          rw [hjk] at HR
          have HB := Lib.hid hb1
          clear hb1 hB
          unfold fRule
          generalize fRuleN ob = f at *
          go_wp2
          go_ret2
          exact ⟨by rw [HR.out]; rfl, HB.out⟩
        · by_cases c4 : (js.length : Int) ≤ k
          · have hjk : jobB js.length k = false := decide_eq_false (by omega)
            rw [hjk] at HR
            have HB := Lib.hid hb1
            clear hb1 hB
            unfold fRule
            generalize fRuleN ob = f at *
            go_wp2
            go_ret2
            exact ⟨by rw [HR.out]; rfl, HB.out⟩
          · have hjk : jobB js.length k = true := decide_eq_true (by omega)
            rw [hjk] at HR
            obtain ⟨i, rfl, hi⟩ := job_out hji
            obtain ⟨k, rfl, hk⟩ := job_out hjk
            rw [Int.toNat_natCast, Int.toNat_natCast] at HR
            obtain ⟨f, hf, hcf, hcall⟩ := rule_call (b := b) (A := A) (c := c) ho hg
            have HC := Lib.hid (hcall w1 i k hB (hr.below hb1) hi hk)
            have HB := Lib.hid hb1
            rw [hf]
            have hcf' := hcf #[.int .i64 (i : Int), .int .i64 (k : Int), .pointer (some ⟨b, 0, none⟩)]
            clear hb1 hB hcall hf hcf hji hjk hu
            go_wp2_with fail
            refine HC.out.mono ?_
            rintro e w2 ⟨rfl, m2, rfl⟩
            go_wp2
            go_ret2
            exact ⟨by rw [HR.out]; rfl, below_drewN HB.out _⟩
end
end Go.Proofs.Ytjnaicgmfnhjeaa
