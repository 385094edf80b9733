/- Rules: the model's. RuleDifference of both. -/
import Derived.Test.YtpjjjbkjkhcbdaaRule
import Derived.RegionTactic
import Derived.BigRegion
namespace Go.Proofs.Ytpjjjbkjkhcbdaa
open Go.RowKit
theorem ruled_eq (js : List J) (ob : Int) : ruledB js ob = (goodL js && (inB ob 1 4 && (decide (ob = 1) || plain0 js))) := rfl
section
variable (A : Option Addr) (c : Nat) (js : List J) (ob : Int) (w : World) (hr : Row w A (jc js)) (hn : js.length ≤ 10000000)
include hr hn
theorem l3Ruled_any : Calls Try.prog 97 #[.slice A js.length c, .int .i64 ob] w fun e w' => e = .returned (.bool (ruledB js ob)) ∧ Below w.heap.size w w' := by
  have HT := Lib.hid (ruled_eq js ob)
  cases hg : goodL js
  · go_enter Try.func97, Try.ntmps97
    go_wp2_with fail
    refine (l2Good_any A c js _ hr (by omega)).mono ?_
    rintro e w1 ⟨rfl, hb1⟩
    rw [hg]
    go_wp2
    go_ret
    exact ⟨by rw [HT.out, hg]; rfl, hb1⟩
  · cases hin : inB ob 1 4
    · go_enter Try.func97, Try.ntmps97
      go_wp2_with fail
      refine (l2Good_any A c js _ hr (by omega)).mono ?_
      rintro e w1 ⟨rfl, hb1⟩
      rw [hg]
      go_wp2_with fail
      refine (l1In_any _ _ _ _).mono ?_
      rintro e _ ⟨rfl, rfl⟩
      rw [hin]
      go_wp2
      go_ret
      exact ⟨by rw [HT.out, hg, hin]; rfl, hb1⟩
    · by_cases h1 : ob = 1
      · subst h1
        go_enter Try.func97, Try.ntmps97
        go_wp2_with fail
        refine (l2Good_any A c js _ hr (by omega)).mono ?_
        rintro e w1 ⟨rfl, hb1⟩
        rw [hg]
        go_wp2_with fail
        refine (l1In_any _ _ _ _).mono ?_
        rintro e _ ⟨rfl, rfl⟩
        rw [hin]
        go_wp2
        go_ret
        exact ⟨by rw [HT.out, hg]; rfl, hb1⟩
      · have e0 : (ob == 1) = false := beq_eq_false_iff_ne.2 h1
        go_enter Try.func97, Try.ntmps97
        go_wp2_with fail
        refine (l2Good_any A c js _ hr (by omega)).mono ?_
        rintro e w1 ⟨rfl, hb1⟩
        rw [hg]
        go_wp2_with fail
        refine (l1In_any _ _ _ _).mono ?_
        rintro e _ ⟨rfl, rfl⟩
        rw [hin]
        go_wp2_with fail
        refine (l3Plain_any A c js _ (hr.below hb1) (by omega)).mono ?_
        rintro e w2 ⟨rfl, hb2⟩
        have HE : Hid (ruledB js ob = plain0 js) := by
          show _ = _
          rw [HT.out, hg, hin, decide_eq_false h1]; simp
        go_wp2
        go_ret
        exact ⟨by rw [HE.out]; rfl, hb1.trans (hb2.mono hb1.size)⟩
end
section
variable (A : Option Addr) (c : Nat) (js : List J) (ob : Int) (w : World) (hr : Row w A (jc js)) (hg : ∀ j ∈ js, okJ j = true) (i k : Nat) (hi : i < js.length) (hk : k < js.length)
include hr hg hi hk
set_option maxRecDepth 100000 in
set_option maxHeartbeats 1000000 in
theorem l3Gap_any (ho : isRule ob = true) : Calls Try.prog 140 #[.slice A js.length c, .int .i64 ob, .int .i64 (i : Int), .int .i64 (k : Int)] w fun e w' => e = .returned (.int .i64 (gapN ob js i k)) ∧ Below w.heap.size w w' := by
  obtain ⟨ad, rfl, hadb, a0, a1, a2, a3⟩ := hr.job hi
  obtain ⟨ad', hA', _, b0, b1, b2, b3⟩ := hr.job hk
  injection hA' with hA'
  subst hA'
  have hbi : (ad.add (i * 4)).block < w.heap.size := by rw [add_block]; exact hadb
  have hbk : (ad.add (k * 4)).block < w.heap.size := by rw [add_block]; exact hadb
  obtain ⟨x1, x2, x3, x4, x5, x6, x7, x8⟩ := okJ_out (hg _ (List.getElem_mem hi))
  obtain ⟨y1, y2, y3, y4, y5, y6, y7, y8⟩ := okJ_out (hg _ (List.getElem_mem hk))
  have HG : Hid (gapN ob js i k = gapJ ob js[i] js[k]) := by show _ = _; unfold gapN; rw [getD_at js j0 hi, getD_at js j0 hk]
  have hi0 : (0 : Int) ≤ i := by omega
  have hi1 : (i : Int) < js.length := by omega
  have hk0 : (0 : Int) ≤ k := by omega
  have hk1 : (k : Int) < js.length := by omega
  clear hr hg
  generalize js[i] = x at *
  generalize js[k] = y at *
  have m1 := mul50 (by omega) x2 y3 y4
  have m2 := mul50 (by omega) y2 x3 x4
  rcases isRule_out ho with rfl | rfl | rfl | rfl
  all_goals
    clear ho
    go_enter Try.func140, Try.ntmps140
    go_wp2
    go_region
    all_goals
     go_wp2
     go_ret
     exact ⟨by rw [HG.out]; rfl, (((Below.refl _ _).alloc (Nat.le_refl _) _).alloc (by simp) _).drew⟩
end
theorem l3Job_any (A : Option Addr) (c n : Nat) (i : Int) (w : World) (hn : n ≤ 10000000) : Calls Try.prog 102 #[.slice A n c, .int .i64 i] w fun e w' => e = .returned (.bool (inB i 0 ((n : Int) - 1))) ∧ w = w' := by
  go_enter Try.func102, Try.ntmps102
  go_wp2_with fail
  refine (l1In_any _ _ _ _).mono ?_
  rintro e _ ⟨rfl, rfl⟩
  go_wp2
  go_ret
  exact ⟨rfl, rfl⟩
def jobB (n : Nat) (i : Int) : Bool := inB i 0 ((n : Int) - 1)
theorem job_out {n : Nat} {i : Int} (h : jobB n i = true) : ∃ k : Nat, i = (k : Int) ∧ k < n := by
  have := inB_out h
  exact ⟨i.toNat, by omega, by omega⟩
def diffR (js : List J) (ob i k : Int) : Int × Bool := if ruledB js ob && (jobB js.length i && jobB js.length k) then (gapN ob js i.toNat k.toNat, true) else (0, false)
section
variable (A : Option Addr) (c : Nat) (js : List J) (ob i k : Int) (w : World) (hr : Row w A (jc js)) (hn : js.length ≤ 10000000)
include hr hn
end
end Go.Proofs.Ytpjjjbkjkhcbdaa
