/- BestValue, CountBest, IsBestOrder of the model. Made by tools/mk_bests.py. -/
import Derived.Test.YtgiecjcgidgpfaaBestS
import Derived.Test.YtgiecjcgidgpfaaGainP
namespace Go.Proofs.Ytgiecjcgidgpfaa
open Go.RowKit
theorem field_count (A : Option Addr) (n c : Nat) (v m : Int) (w : World) : (Instr.field 107 (.agg #[.slice A n c, .int .i64 v, .int .i64 m]) 2).run Try.prog w = .ok (.int .i64 m) w := by
  simp [Instr.field, part, go_sem]
  rfl
def bestVR (js : List J) (o : Int) : Int × Bool := if goodL js && isObj o then ((bestL o js).v, true) else (0, false)
def countR (js : List J) (o : Int) : Int × Bool := if goodL js && isObj o then (((bestL o js).n : Int), true) else (0, false)
section
variable (AJ : Option Addr) (cJ : Nat) (js : List J) (o : Int) (w : World) (hr : Row w AJ (jc js)) (hn : js.length ≤ 10000000)
include hr hn
set_option maxRecDepth 100000 in
set_option maxHeartbeats 1000000 in
theorem spec_BestValue : Calls Try.prog 54 #[.slice AJ js.length cJ, .int .i64 o] w (RetNB w (bestVR js o)) := by
  have HR : Hid (bestVR js o = if goodL js && isObj o then ((bestL o js).v, true) else (0, false)) := rfl
  cases hg : goodL js
  · rw [hg] at HR
    go_enter Try.func54, Try.ntmps54
    go_wp2_with fail
    refine (l2Good_any AJ cJ js _ hr (by omega)).mono ?_
    rintro e w1 ⟨rfl, hb1⟩
    rw [hg]
    go_wp2
    go_ret2
    exact ⟨by rw [HR.out]; rfl, hb1⟩
  · rw [hg] at HR
    cases ho : isObj o
    · rw [ho] at HR
      go_enter Try.func54, Try.ntmps54
      go_wp2_with fail
      refine (l2Good_any AJ cJ js _ hr (by omega)).mono ?_
      rintro e w1 ⟨rfl, hb1⟩
      rw [hg]
      go_wp2_with fail
      refine (l2Objective_any _ _).mono ?_
      rintro e _ ⟨rfl, rfl⟩
      rw [ho]
      go_wp2
      go_ret2
      exact ⟨by rw [HR.out]; rfl, hb1⟩
    · rw [ho] at HR
      go_enter Try.func54, Try.ntmps54
      go_wp2_with fail
      refine (l2Good_any AJ cJ js _ hr (by omega)).mono ?_
      rintro e w1 ⟨rfl, hb1⟩
      rw [hg]
      go_wp2_with fail
      refine (l2Objective_any _ _).mono ?_
      rintro e _ ⟨rfl, rfl⟩
      rw [ho]
      go_wp2_with fail
      refine (l2Best_any ho hg AJ cJ _ (hr.below hb1)).mono ?_
      rintro e w2 ⟨A, c, rfl, _, hb2⟩
      have HB := Lib.hid (hb1.trans (hb2.mono hb1.size))
      clear hb1 hb2
      generalize bestL o js = tt at *
      go_wp2
      go_ret2
      exact ⟨by rw [HR.out]; rfl, HB.out⟩
set_option maxRecDepth 100000 in
set_option maxHeartbeats 1000000 in
theorem spec_CountBest : Calls Try.prog 38 #[.slice AJ js.length cJ, .int .i64 o] w (RetNB w (countR js o)) := by
  have HR : Hid (countR js o = if goodL js && isObj o then (((bestL o js).n : Int), true) else (0, false)) := rfl
  cases hg : goodL js
  · rw [hg] at HR
    go_enter Try.func38, Try.ntmps38
    go_wp2_with fail
    refine (l2Good_any AJ cJ js _ hr (by omega)).mono ?_
    rintro e w1 ⟨rfl, hb1⟩
    rw [hg]
    go_wp2
    go_ret2
    exact ⟨by rw [HR.out]; rfl, hb1⟩
  · rw [hg] at HR
    cases ho : isObj o
    · rw [ho] at HR
      go_enter Try.func38, Try.ntmps38
      go_wp2_with fail
      refine (l2Good_any AJ cJ js _ hr (by omega)).mono ?_
      rintro e w1 ⟨rfl, hb1⟩
      rw [hg]
      go_wp2_with fail
      refine (l2Objective_any _ _).mono ?_
      rintro e _ ⟨rfl, rfl⟩
      rw [ho]
      go_wp2
      go_ret2
      exact ⟨by rw [HR.out]; rfl, hb1⟩
    · rw [ho] at HR
      go_enter Try.func38, Try.ntmps38
      go_wp2_with fail
      refine (l2Good_any AJ cJ js _ hr (by omega)).mono ?_
      rintro e w1 ⟨rfl, hb1⟩
      rw [hg]
      go_wp2_with fail
      refine (l2Objective_any _ _).mono ?_
      rintro e _ ⟨rfl, rfl⟩
      rw [ho]
      go_wp2_with fail
      refine (l2All_any ho hg AJ cJ _ (hr.below hb1)).mono ?_
      rintro e w2 ⟨s, rfl, hbs, hb2⟩
      obtain ⟨A, c, rfl, _, _⟩ := own_slice hbs
      have HB := Lib.hid (hb1.trans (hb2.mono hb1.size))
      clear hb1 hb2 hbs
      unfold bestV
      generalize bestL o js = tt at *
      have hfld := field_count A tt.first.length c tt.v (tt.n : Int) w2
      go_wp2
      go_ret2
      exact ⟨by rw [HR.out]; rfl, HB.out⟩
end
def isBestR (js : List J) (q : List Int) (o : Int) : Bool × Bool := if twoB js q && isObj o then (valI o js q == (bestL o js).v, true) else (false, false)
def RetBB (w : World) (r : Bool × Bool) (e : Ending) (w' : World) : Prop := e = .returned (.tuple #[.bool r.1, .bool r.2]) ∧ Below w.heap.size w w'
section
variable (AJ B : Option Addr) (cJ d : Nat) (js : List J) (q : List Int) (o : Int) (w : World) (hr : Row w AJ (jc js)) (hq : Row w B (ic q)) (hn : js.length ≤ 10000000) (hm : q.length ≤ 10000000)
include hr hq hn hm
set_option maxRecDepth 100000 in
set_option maxHeartbeats 1000000 in
theorem spec_IsBestOrder : Calls Try.prog 56 #[.slice AJ js.length cJ, .slice B q.length d, .int .i64 o] w (RetBB w (isBestR js q o)) := by
  have HR : Hid (isBestR js q o = if twoB js q && isObj o then (valI o js q == (bestL o js).v, true) else (false, false)) := rfl
  cases ht : twoB js q
  · rw [ht] at HR
    go_enter Try.func56, Try.ntmps56
    go_wp2_with fail
    refine (l2Two_any AJ B cJ d js q _ hr hq (by omega) (by omega)).mono ?_
    rintro e w1 ⟨rfl, hb1⟩
    rw [ht]
    go_wp2
    go_ret2
    exact ⟨by rw [HR.out]; rfl, hb1⟩
  · rw [ht] at HR
    cases ho : isObj o
    · rw [ho] at HR
      go_enter Try.func56, Try.ntmps56
      go_wp2_with fail
      refine (l2Two_any AJ B cJ d js q _ hr hq (by omega) (by omega)).mono ?_
      rintro e w1 ⟨rfl, hb1⟩
      rw [ht]
      go_wp2_with fail
      refine (l2Objective_any _ _).mono ?_
      rintro e _ ⟨rfl, rfl⟩
      rw [ho]
      go_wp2
      go_ret2
      exact ⟨by rw [HR.out]; rfl, hb1⟩
    · rw [ho] at HR
      have HV : Hid (valI o js q = valOf o js (endsL js (natsOf q))) := rfl
      go_enter Try.func56, Try.ntmps56
      go_wp2_with fail
      refine (l2Two_any AJ B cJ d js q _ hr hq (by omega) (by omega)).mono ?_
      rintro e w1 ⟨rfl, hb1⟩
      rw [ht]
      go_wp2_with fail
      refine (l2Objective_any _ _).mono ?_
      rintro e _ ⟨rfl, rfl⟩
      rw [ho]
      go_wp2_with fail
      refine (l2Best_any ho (two_out ht).1 AJ cJ _ (hr.below hb1)).mono ?_
      rintro e w2 ⟨A, c, rfl, _, hb2⟩
      have hbb := hb1.trans (hb2.mono hb1.size)
      have HC := Lib.hid (l2Value_any AJ B cJ d js q o w2 (hr.below hbb) (hq.below hbb) ht ho)
      have HB := Lib.hid hbb
      clear hb1 hb2 hbb
      generalize bestL o js = tt at *
      go_wp2_with fail
      refine HC.out.mono ?_
      rintro e w3 ⟨rfl, hb3⟩
      rw [← HV.out]
      have HB3 := Lib.hid (HB.out.trans (hb3.mono HB.out.size))
      clear hb3 HC
      generalize valI o js q = vv at *
      go_wp2
      go_ret2
      exact ⟨by rw [HR.out]; rfl, HB3.out⟩
end
end Go.Proofs.Ytgiecjcgidgpfaa
