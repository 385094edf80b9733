/- ValueOf: the model's. -/
import Derived.Test.YtgiecjcgidgpfaaValI
namespace Go.Proofs.Ytgiecjcgidgpfaa
open Go.RowKit
section
variable (A B : Option Addr) (c d : Nat) (js : List J) (o : List Int) (ob : Int) (w : World) (hr : Row w A (jc js)) (hq : Row w B (ic o)) (hn : js.length ≤ 10000000) (hm : o.length ≤ 10000000)
include hr hq hn hm
theorem spec_ValueOf : Calls Try.prog 33 #[.slice A js.length c, .slice B o.length d, .int .i64 ob] w (RetNB w (valR js o ob)) := by
  have HR : Hid (valR js o ob = if twoB js o && isObj ob then (valOf ob js (endsL js (natsOf o)), true) else (0, false)) := rfl
  cases ht : twoB js o
  · rw [ht] at HR
    go_enter Try.func33, Try.ntmps33
    go_wp2_with fail
    refine (l2Two_any A B c d js o _ hr hq hn hm).mono ?_
    rintro e w1 ⟨rfl, hb1⟩
    rw [ht]
    go_wp2
    go_ret2
    exact ⟨by rw [HR.out]; rfl, hb1⟩
  · cases ho : isObj ob
    · rw [ht, ho] at HR
      go_enter Try.func33, Try.ntmps33
      go_wp2_with fail
      refine (l2Two_any A B c d js o _ hr hq hn hm).mono ?_
      rintro e w1 ⟨rfl, hb1⟩
      rw [ht]
      go_wp2_with fail
      refine (l2Objective_any ob _).mono ?_
      rintro e _ ⟨rfl, rfl⟩
      rw [ho]
      go_wp2
      go_ret2
      exact ⟨by rw [HR.out]; rfl, hb1⟩
    · rw [ht, ho] at HR
      go_enter Try.func33, Try.ntmps33
      go_wp2_with fail
      refine (l2Two_any A B c d js o _ hr hq hn hm).mono ?_
      rintro e w1 ⟨rfl, hb1⟩
      rw [ht]
      go_wp2_with fail
      refine (l2Objective_any ob _).mono ?_
      rintro e _ ⟨rfl, rfl⟩
      rw [ho]
      go_wp2_with fail
      refine (l2Value_any A B c d js o ob _ (hr.below hb1) (hq.below hb1) ht ho).mono ?_
      rintro e w2 ⟨rfl, hb2⟩
      go_wp2
      go_ret2
      exact ⟨by rw [HR.out]; rfl, hb1.trans (hb2.mono hb1.size)⟩
end
end Go.Proofs.Ytgiecjcgidgpfaa
