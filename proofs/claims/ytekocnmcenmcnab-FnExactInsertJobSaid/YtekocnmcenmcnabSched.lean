/- Schedules: starts and ends, the model's and the program's. -/
import Derived.Test.YtekocnmcenmcnabSegH
import Derived.Test.YtekocnmcenmcnabOrd
import Derived.Test.YtekocnmcenmcnabIdleP
import Derived.StillTailTactics
namespace Go.Proofs.Ytekocnmcenmcnab
open Go.RowKit

def twoB (js : List J) (o : List Int) : Bool := goodL js && ordB js.length o
theorem l1Most_any (x y : Int) (w : World) :
    Calls Try.prog 90 #[.int .i64 x, .int .i64 y] w fun e w' => e = .returned (.int .i64 (max x y)) ∧ w' = w := by
  by_cases h : y < x
  · go_enter Try.func90, Try.ntmps90
    go_wp2
    go_ret
    exact ⟨by rw [show max x y = x by omega]; rfl, rfl⟩
  · go_enter Try.func90, Try.ntmps90
    go_wp2
    go_ret
    exact ⟨by rw [show max x y = y by omega]; rfl, rfl⟩
theorem l2Two_any (A B : Option Addr) (c d : Nat) (js : List J) (o : List Int) (w : World) (hr : Row w A (jc js)) (hq : Row w B (ic o)) (hn : js.length ≤ 10000000) (hm : o.length ≤ 10000000) :
    Calls Try.prog 42 #[.slice A js.length c, .slice B o.length d] w fun e w' => e = .returned (.bool (twoB js o)) ∧ Below w.heap.size w w' := by
  have HT : Hid (twoB js o = (goodL js && ordB js.length o)) := rfl
  cases hg : goodL js
  · go_enter Try.func42, Try.ntmps42
    go_wp2_with fail
    refine (l2Good_any A c js _ hr (by omega)).mono ?_
    rintro e w1 ⟨rfl, hb1⟩
    rw [hg]
    go_wp2
    go_ret
    exact ⟨by rw [HT.out, hg]; rfl, hb1⟩
  · go_enter Try.func42, Try.ntmps42
    go_wp2_with fail
    refine (l2Good_any A c js _ hr (by omega)).mono ?_
    rintro e w1 ⟨rfl, hb1⟩
    rw [hg]
    go_wp2_with fail
    refine (l2Order_any _ B d o _ (hq.below hb1) (by omega)).mono ?_
    rintro e w2 ⟨rfl, rfl⟩
    go_wp2
    go_ret
    exact ⟨by rw [HT.out, hg]; rfl, hb1⟩
theorem isScheduled_any (A B : Option Addr) (c d : Nat) (js : List J) (o : List Int) (w : World) (hr : Row w A (jc js)) (hq : Row w B (ic o)) (hn : js.length ≤ 10000000) (hm : o.length ≤ 10000000) :
    Calls Try.prog 49 #[.slice A js.length c, .slice B o.length d] w fun e w' => e = .returned (.bool (twoB js o)) ∧ Below w.heap.size w w' := by
  have HT : Hid (twoB js o = (goodL js && ordB js.length o)) := rfl
  cases hg : goodL js
  · go_enter Try.func49, Try.ntmps49
    go_wp2_with fail
    refine (IsJobs_any A c js _ hr (by omega)).mono ?_
    rintro e w1 ⟨rfl, hb1⟩
    rw [hg]
    go_wp2
    go_ret
    exact ⟨by rw [HT.out, hg]; rfl, hb1⟩
  · go_enter Try.func49, Try.ntmps49
    go_wp2_with fail
    refine (IsJobs_any A c js _ hr (by omega)).mono ?_
    rintro e w1 ⟨rfl, hb1⟩
    rw [hg]
    go_wp2_with fail
    refine (IsOrder_any _ B d o _ (hq.below hb1) (by omega)).mono ?_
    rintro e w2 ⟨rfl, hb2⟩
    go_wp2
    go_ret
    exact ⟨by rw [HT.out, hg]; rfl, hb1.trans (hb2.mono hb1.size)⟩
theorem endAfter_any (x : Int) (j : J) (w : World) (hj : okJ j = true) (h0 : 0 ≤ x) (h1 : x ≤ 10000) :
    Calls Try.prog 83 #[.int .i64 x, .agg #[.int .i64 j.t, .int .i64 j.w, .int .i64 j.r, .int .i64 j.d]] w fun e w' => e = .returned (.int .i64 (max x j.r + j.t)) ∧ Below w.heap.size w w' := by
  obtain ⟨t0, t1, _, _, r0, r1, _, _⟩ := okJ_out hj
  clear hj
  by_cases h : x < j.r
  · have hm : max x j.r = j.r := by omega
    go_enter Try.func83, Try.ntmps83
    go_wp2
    go_ret
    exact ⟨by first | rfl | (rw [hm]; rfl), (Below.refl _ _).alloc (Nat.le_refl _) _⟩
  · have hm : max x j.r = x := by omega
    go_enter Try.func83, Try.ntmps83
    go_wp2
    go_ret
    exact ⟨by first | rfl | (rw [hm]; rfl), (Below.refl _ _).alloc (Nat.le_refl _) _⟩
end Go.Proofs.Ytekocnmcenmcnab
