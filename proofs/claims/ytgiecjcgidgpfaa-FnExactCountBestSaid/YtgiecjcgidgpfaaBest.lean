/- BestValue, CountBest, IsBestOrder of the program. -/
import Derived.Test.YtgiecjcgidgpfaaBestE
import Derived.Test.YtgiecjcgidgpfaaBestV
import Derived.Test.YtgiecjcgidgpfaaValO
namespace Go.Proofs.Ytgiecjcgidgpfaa
open Go.RowKit
section
variable (AJ : Option Addr) (cJ : Nat) (js : List J) (o : Int) (w : World) (hr : Row w AJ (jc js)) (hn : js.length ≤ 10000000)
include hr hn
set_option maxRecDepth 100000 in
theorem impl_BestValue : Calls Try.prog 55 #[.slice AJ js.length cJ, .int .i64 o] w (RetNB w (bestVR js o)) := by
  have HR : Hid (bestVR js o = if goodL js && isObj o then ((bestL o js).v, true) else (0, false)) := rfl
  go_enter Try.func55, Try.ntmps55
  go_wp2_with fail
  refine (bestOf_any AJ cJ js o w hr hn).mono ?_
  rintro e w1 ⟨hb1, ⟨hf, rfl⟩ | ⟨hf, A, c, rfl, _⟩⟩
  · rw [hf] at HR
    go_wp2
    go_ret2
    exact ⟨by rw [HR.out]; rfl, hb1.alloc hb1.size _⟩
  · rw [hf] at HR
    clear hf
    generalize bestL o js = tt at *
    go_wp2
    go_ret2
    exact ⟨by rw [HR.out]; rfl, hb1.alloc hb1.size _⟩
set_option maxRecDepth 100000 in
theorem impl_CountBest : Calls Try.prog 37 #[.slice AJ js.length cJ, .int .i64 o] w (RetNB w (countR js o)) := by
  have HR : Hid (countR js o = if goodL js && isObj o then (((bestL o js).n : Int), true) else (0, false)) := rfl
  go_enter Try.func37, Try.ntmps37
  go_wp2_with fail
  refine (bestOf_any AJ cJ js o w hr hn).mono ?_
  rintro e w1 ⟨hb1, ⟨hf, rfl⟩ | ⟨hf, A, c, rfl, _⟩⟩
  · rw [hf] at HR
    go_wp2
    go_ret2
    exact ⟨by rw [HR.out]; rfl, hb1.alloc hb1.size _⟩
  · rw [hf] at HR
    clear hf
    generalize bestL o js = tt at *
    go_wp2
    go_ret2
    exact ⟨by rw [HR.out]; rfl, hb1.alloc hb1.size _⟩
end
section
variable (AJ B : Option Addr) (cJ d : Nat) (js : List J) (q : List Int) (o : Int) (w : World) (hr : Row w AJ (jc js)) (hq : Row w B (ic q)) (hn : js.length ≤ 10000000) (hm : q.length ≤ 10000000)
include hr hq hn hm
set_option maxRecDepth 100000 in
theorem impl_IsBestOrder : Calls Try.prog 41 #[.slice AJ js.length cJ, .slice B q.length d, .int .i64 o] w (RetBB w (isBestR js q o)) := by
  have HR : Hid (isBestR js q o = if twoB js q && isObj o then (valI o js q == (bestL o js).v, true) else (false, false)) := rfl
  have HV : Hid (valR js q o = if twoB js q && isObj o then (valI o js q, true) else (0, false)) := rfl
  have HB : Hid (bestVR js o = if goodL js && isObj o then ((bestL o js).v, true) else (0, false)) := rfl
  have HC := Lib.hid (impl_ValueOf AJ B cJ d js q o w hr hq hn hm)
  cases ht : twoB js q && isObj o
  · rw [ht] at HR HV
    rw [HV.out] at HC
    go_enter Try.func41, Try.ntmps41
    go_wp2_with fail
    refine HC.out.mono ?_
    rintro e w1 ⟨rfl, hb1⟩
    go_wp2
    go_ret2
    exact ⟨by rw [HR.out]; rfl, hb1⟩
  · rw [ht] at HR HV
    rw [HV.out] at HC
    have hgo : (goodL js && isObj o) = true := by
      simp only [Bool.and_eq_true] at ht ⊢
      exact ⟨(two_out ht.1).1, ht.2⟩
    rw [hgo] at HB
    clear hgo ht
    generalize valI o js q = vv at *
    generalize bestL o js = tt at *
    go_enter Try.func41, Try.ntmps41
    go_wp2_with fail
    refine HC.out.mono ?_
    rintro e w1 ⟨rfl, hb1⟩
    go_wp2_with fail
    refine (impl_BestValue AJ cJ js o w1 (hr.below hb1) hn).mono ?_
    rintro e w2 ⟨rfl, hb2⟩
    rw [HB.out]
    go_wp2
    go_ret2
    exact ⟨by rw [HR.out]; rfl, hb1.trans (hb2.mono hb1.size)⟩
end
end Go.Proofs.Ytgiecjcgidgpfaa
