/- BestOrder of the model. Made by tools/mk_bests.py. -/
import Derived.Test.YtgiecjcgidgpfaaBestS
import Derived.Test.YtgiecjcgidgpfaaGainP
namespace Go.Proofs.Ytgiecjcgidgpfaa
open Go.RowKit
def bestOR (js : List J) (o : Int) : List Int × Bool := if goodL js && isObj o then (natI (bestL o js).first, true) else ([], false)
section
variable (AJ : Option Addr) (cJ : Nat) (js : List J) (o : Int) (w : World) (hr : Row w AJ (jc js)) (hn : js.length ≤ 10000000)
include hr hn
set_option maxRecDepth 100000 in
set_option maxHeartbeats 1000000 in
theorem spec_BestOrder : Calls Try.prog 35 #[.slice AJ js.length cJ, .int .i64 o] w (RetIB w (bestOR js o)) := by
  have HR : Hid (bestOR js o = if goodL js && isObj o then (natI (bestL o js).first, true) else ([], false)) := rfl
  cases hg : goodL js
  · rw [hg] at HR
    go_enter Try.func35, Try.ntmps35
    go_wp2_with fail
    refine (l2Good_any AJ cJ js _ hr (by omega)).mono ?_
    rintro e w1 ⟨rfl, hb1⟩
    rw [hg]
    go_wp2
    go_ret2
    exact ret_empty HR.out hb1 _ rfl
  · rw [hg] at HR
    cases ho : isObj o
    · rw [ho] at HR
      go_enter Try.func35, Try.ntmps35
      go_wp2_with fail
      refine (l2Good_any AJ cJ js _ hr (by omega)).mono ?_
      rintro e w1 ⟨rfl, hb1⟩
      rw [hg]
      go_wp2_with fail
      refine (l2Objective_any _ _).mono ?_
      rintro e _ ⟨rfl, rfl⟩
      rw [ho]
      go_wp2
      go_ret2
      exact ret_empty HR.out hb1 _ rfl
    · rw [ho] at HR
      go_enter Try.func35, Try.ntmps35
      go_wp2_with fail
      refine (l2Good_any AJ cJ js _ hr (by omega)).mono ?_
      rintro e w1 ⟨rfl, hb1⟩
      rw [hg]
      go_wp2_with fail
      refine (l2Objective_any _ _).mono ?_
      rintro e _ ⟨rfl, rfl⟩
      rw [ho]
      go_wp2_with fail
      refine (l2Best_any ho hg AJ cJ _ (hr.below hb1)).mono ?_
      rintro e w2 ⟨A, c, rfl, hbs, hb2⟩
      have HB := Lib.hid (And.intro (hb1.trans (hb2.mono hb1.size)) (own_lower hbs hb1.size))
      clear hb1 hb2 hbs
      generalize bestL o js = tt at *
      go_wp2
      go_ret2
      refine ⟨A, c, ?_, ?_, HB.out.1⟩
      · rw [HR.out]; simp
      · rw [HR.out]; simp only [Bool.and_self, if_true]; rw [natI_len]; exact Seg.of_own HB.out.2
end
end Go.Proofs.Ytgiecjcgidgpfaa
