/- CriticalPart of both; BlockingJob of the model. -/
import Derived.Test.YtpjjjbkjkhcbdaaCrj
import Derived.Test.YtpjjjbkjkhcbdaaGrl
namespace Go.Proofs.Ytpjjjbkjkhcbdaa
open Go.RowKit
theorem critR_len (js : List J) : (critR js).1.length ≤ 8 := by
  unfold critR
  split
  · rename_i h
    have h8 := (good_out h.1).1
    have hl := greedy_len h.1
    rw [List.length_map, critL_len js _ (by omega)]
    have := maxTo_lt js (greedyL js) (greedyL js).length (by omega)
    omega
  · simp
theorem critL_pos' {js : List J} (hg : goodL js = true) (h0 : 0 < js.length) : 0 < (critL js (greedyL js)).length ∧ (critL js (greedyL js)).length ≤ 8 := by
  have hl := greedy_len hg
  have h8 := (good_out hg).1
  have h1 := critL_pos js (greedyL js) (by omega)
  have h2 := maxTo_lt js (greedyL js) (greedyL js).length (by omega)
  rw [critL_len js _ (by omega)] at h1 ⊢
  omega
theorem critL_mem {js : List J} (hg : goodL js = true) : ∀ j ∈ critL js (greedyL js), j < js.length := fun _ hj =>
  perm_lt (greedy_perm hg) (List.mem_of_mem_drop (List.mem_of_mem_take hj))
section
variable (A : Option Addr) (c : Nat) (js : List J) (w : World) (hr : Row w A (jc js)) (hn : js.length ≤ 10000000)
include hr hn
theorem spec_CriticalPart : Calls Try.prog 50 #[.slice A js.length c] w (RetIO w (critR js)) := by
  have HR : Hid (critR js = if goodL js ∧ 0 < js.length then (natI (critL js (greedyL js)), true) else ([], false)) := rfl
  cases hg : goodL js
  · rw [if_neg (by rw [hg]; simp)] at HR
    go_enter Try.func50, Try.ntmps50
    go_wp2_with fail
    refine (l2Good_any A c js _ hr (by omega)).mono ?_
    rintro e w1 ⟨rfl, hb1⟩
    rw [hg]
    go_wp2
    go_ret2
    exact ret_emptyO HR.out hb1 _ rfl
  · by_cases h0 : 0 < js.length
    · rw [if_pos ⟨hg, h0⟩] at HR
      have z1 : ((js.length : Int) == 0) = false := by rw [beq_eq_false_iff_ne]; omega
      have z2 : decide ((js.length : Int) = 0) = false := decide_eq_false (by omega)
      have HP := Lib.hid (critL_pos' hg h0).1
      go_enter Try.func50, Try.ntmps50
      go_wp2_with fail
      refine (l2Good_any A c js _ hr (by omega)).mono ?_
      rintro e w1 ⟨rfl, hb1⟩
      rw [hg]
      go_wp2_with fail
      refine (l5Part_any A c js _ (hr.below hb1) hg h0).mono ?_
      rintro e w2 ⟨v, rfl, ho, hb2⟩
      obtain ⟨B, d, rfl, _, _⟩ := own_slice ho
      have HS := Lib.hid (segO_own (own_up ho hb1.size) HP.out)
      clear ho
      go_wp2
      go_ret2
      exact ret_segO HR.out rfl HS.out (below_and hb1 hb2) _ rfl
    · rw [if_neg (fun h => h0 h.2)] at HR
      have z1 : ((js.length : Int) == 0) = true := by rw [beq_iff_eq]; omega
      have z2 : decide ((js.length : Int) = 0) = true := decide_eq_true (by omega)
      have HJ : Hid (js = []) := List.eq_nil_of_length_eq_zero (by omega)
      clear h0
      go_enter Try.func50, Try.ntmps50
      go_wp2_with fail
      refine (l2Good_any A c js _ hr (by omega)).mono ?_
      rintro e w1 ⟨rfl, hb1⟩
      rw [hg]
      go_wp2
      go_ret2
      exact ret_emptyO HR.out hb1 _ rfl
theorem impl_CriticalPart : Calls Try.prog 51 #[.slice A js.length c] w (RetIO w (critR js)) := by
  have HR : Hid (critR js = if goodL js ∧ 0 < js.length then (natI (critL js (greedyL js)), true) else ([], false)) := rfl
  cases hg : goodL js
  · rw [if_neg (by rw [hg]; simp)] at HR
    go_enter Try.func51, Try.ntmps51
    go_wp2_with fail
    refine (IsJobs_any A c js _ hr (by omega)).mono ?_
    rintro e w1 ⟨rfl, hb1⟩
    rw [hg]
    go_wp2
    go_ret2
    exact ret_emptyO HR.out hb1 _ rfl
  · by_cases h0 : 0 < js.length
    · rw [if_pos ⟨hg, h0⟩] at HR
      have z1 : ((js.length : Int) == 0) = false := by rw [beq_eq_false_iff_ne]; omega
      have z2 : decide ((js.length : Int) = 0) = false := decide_eq_false (by omega)
      go_enter Try.func51, Try.ntmps51
      go_wp2_with fail
      refine (IsJobs_any A c js _ hr (by omega)).mono ?_
      rintro e w1 ⟨rfl, hb1⟩
      rw [hg]
      go_wp2_with fail
      refine (criticalPart_any A c js _ (hr.below hb1) hg h0).mono ?_
      rintro e w2 ⟨B, d, rfl, ho, hb2⟩
      have HS : Hid (SegO w2 w.heap.size w2.heap.size B (critL js (greedyL js)).length (ic (natI (critL js (greedyL js))))) := by
        obtain ⟨g, o, cur, h1, h2, h3⟩ := ho
        exact ⟨g, o, cur, h1, Nat.le_trans hb1.size h2, h3⟩
      clear ho
      go_wp2
      go_ret2
      exact ret_segO HR.out rfl HS.out (below_and hb1 hb2) _ rfl
    · rw [if_neg (fun h => h0 h.2)] at HR
      have z1 : ((js.length : Int) == 0) = true := by rw [beq_iff_eq]; omega
      have z2 : decide ((js.length : Int) = 0) = true := decide_eq_true (by omega)
      clear h0
      go_enter Try.func51, Try.ntmps51
      go_wp2_with fail
      refine (IsJobs_any A c js _ hr (by omega)).mono ?_
      rintro e w1 ⟨rfl, hb1⟩
      rw [hg]
      go_wp2
      go_ret2
      exact ret_emptyO HR.out hb1 _ rfl
end
end Go.Proofs.Ytpjjjbkjkhcbdaa
