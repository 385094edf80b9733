/- The late rule's answers: the steps, and how many are late; the model's. -/
import Derived.Test.YtjnaicgmfnhjeaaLateT
namespace Go.Proofs.Ytjnaicgmfnhjeaa
open Go.RowKit
theorem ruled4 (js : List J) : ruledB js 4 = plainL js := by
  unfold ruledB plainL; cases goodL js <;> cases plain0 js <;> rfl
def stepsR (js : List J) : List Pr × Bool := if plainL js then ((lateGo js js.length).steps, true) else ([], false)
def fewR (js : List J) : Int × Bool := if plainL js then (((lateGo js js.length).drop.length : Int), true) else (0, false)
theorem late_lens (js : List J) : (lateGo js js.length).steps.length = js.length ∧ (lateGo js js.length).left.length + (lateGo js js.length).drop.length = js.length := lateGo_steps js js.length (by rw [ruledL_len]; omega)
theorem stepsR_len (js : List J) : (stepsR js).1.length ≤ 1000 := by
  unfold stepsR
  cases h : plainL js
  · simp
  · have h1 := (good_out (plain_good h)).1
    have h2 := (late_lens js).1
    simp only [if_true]; omega
theorem ret_ownP {w w' : World} {r : List Pr × Bool} {p : List Pr} {v : Value} (hr : r = (p, true)) (ho : w'.ownsRow w.heap.size 103 2 v p.length (pc p)) (hb : Below w.heap.size w w') (e : Ending) (he : e = .returned (.tuple #[v, .bool true])) : RetPB w r e w' := by
  subst hr
  obtain ⟨A, c, rfl, hs⟩ := seg_out ho
  subst he
  exact ⟨A, c, rfl, hs, hb⟩
theorem late_f1 (At Ad As : Option Addr) (n m k c d e : Nat) (w : World) : (Instr.field 96 (.agg #[.slice At n c, .slice Ad m d, .slice As k e]) 1).run Try.prog w = .ok (.slice Ad m d) w := by kernel_rfl
theorem late_f2 (At Ad As : Option Addr) (n m k c d e : Nat) (w : World) : (Instr.field 96 (.agg #[.slice At n c, .slice Ad m d, .slice As k e]) 2).run Try.prog w = .ok (.slice As k e) w := by kernel_rfl
section
variable (A : Option Addr) (c : Nat) (js : List J) (w : World) (hr : Row w A (jc js)) (hn : js.length ≤ 10000000)
include hr hn
set_option maxRecDepth 100000 in
theorem spec_LateSteps : Calls Try.prog 36 #[.slice A js.length c] w (RetPB w (stepsR js)) := by
  have HR : Hid (stepsR js = if plainL js then ((lateGo js js.length).steps, true) else ([], false)) := rfl
  cases hp : plainL js
  · rw [hp] at HR
    go_enter Try.func36, Try.ntmps36
    go_wp2_with fail
    refine (spec_IsPlain A c js _ hr (by omega)).mono ?_
    rintro e w1 ⟨rfl, hb1⟩
    rw [hp]
    go_wp2
    go_ret2
    exact ret_emptyP HR.out hb1 _ rfl
  · rw [hp] at HR
    have hg := plain_good hp
    go_enter Try.func36, Try.ntmps36
    go_wp2_with fail
    refine (spec_IsPlain A c js _ hr (by omega)).mono ?_
    rintro e w1 ⟨rfl, hb1⟩
    rw [hp]
    go_wp2_with fail
    refine (l3Rule_any A c js _ (hr.below hb1) hg).mono ?_
    rintro e w2 ⟨vt, vd, vs, rfl, h1, h2, h3, _, hb2⟩
    obtain ⟨At, ct, rfl, _⟩ := own_slice h1
    obtain ⟨Ad, cd, rfl, _⟩ := own_slice h2
    obtain ⟨As, cs, rfl, _⟩ := own_slice h3
    have HZ := Lib.hid (And.intro (own_low h3 hb1.size) (hb1.trans (hb2.mono hb1.size)))
    clear h1 h2 h3 hb1 hb2
    generalize (lateGo js js.length).steps = st at *
    generalize (lateGo js js.length).left.length = m at *
    generalize (lateGo js js.length).drop.length = dd at *
    have hfd := late_f2 At Ad As m dd st.length ct cd cs
    go_wp2
    go_ret2
    exact ret_ownP HR.out HZ.out.1 HZ.out.2 _ rfl
set_option maxRecDepth 100000 in
theorem spec_FewestLate : Calls Try.prog 43 #[.slice A js.length c] w (RetNB w (fewR js)) := by
  have HR : Hid (fewR js = if plainL js then (((lateGo js js.length).drop.length : Int), true) else (0, false)) := rfl
  cases hp : plainL js
  · rw [hp] at HR
    go_enter Try.func43, Try.ntmps43
    go_wp2_with fail
    refine (spec_IsPlain A c js _ hr (by omega)).mono ?_
    rintro e w1 ⟨rfl, hb1⟩
    rw [hp]
    go_wp2
    go_ret2
    exact ⟨by rw [HR.out]; rfl, hb1⟩
  · rw [hp] at HR
    have hg := plain_good hp
    go_enter Try.func43, Try.ntmps43
    go_wp2_with fail
    refine (spec_IsPlain A c js _ hr (by omega)).mono ?_
    rintro e w1 ⟨rfl, hb1⟩
    rw [hp]
    go_wp2_with fail
    refine (l3Rule_any A c js _ (hr.below hb1) hg).mono ?_
    rintro e w2 ⟨vt, vd, vs, rfl, h1, h2, h3, _, hb2⟩
    have HB := Lib.hid (hb1.trans (hb2.mono hb1.size))
    obtain ⟨At, ct, rfl, _⟩ := own_slice h1
    obtain ⟨Ad, cd, rfl, _⟩ := own_slice h2
    obtain ⟨As, cs, rfl, _⟩ := own_slice h3
    clear h1 h2 h3 hb1 hb2
    generalize (lateGo js js.length).steps.length = sn at *
    generalize (lateGo js js.length).left.length = ln at *
    generalize (lateGo js js.length).drop.length = m at *
    have hfd := late_f1 At Ad As ln m sn ct cd cs
    go_wp2
    go_ret2
    exact ⟨by rw [HR.out]; rfl, HB.out⟩
end
end Go.Proofs.Ytjnaicgmfnhjeaa
