/- Due order: the model's. -/
import Derived.Test.YtllohccpnglloaaDoorSetL
import Derived.Test.YtllohccpnglloaaDoorDueP
import Derived.Test.YtllohccpnglloaaDoorSwapB
import Derived.Test.YtllohccpnglloaaDoorOwnM
import Derived.Test.YtllohccpnglloaaDoorRegInvG
namespace Go.Proofs.YtllohccpnglloaaDoor
open Go.RowKit
section
variable (A : Option Addr) (c : Nat) (js : List J) (w : World) (hr : Row w A (jc js)) (i k : Nat) (hi : i < js.length) (hk : k < js.length)
include hr hi hk
set_option maxRecDepth 100000 in
set_option maxHeartbeats 4000000 in
theorem l6Sooner_any : Calls Tryd.prog 40 #[.slice A js.length c, .int .i64 (i : Int), .int .i64 (k : Int)] w fun e w' => e = .returned (.bool (soonB js i k)) ∧ ∃ m, w' = w.drewN m := by
  obtain ⟨ad, rfl, hadb, a0, a1, a2, a3⟩ := hr.job hi
  obtain ⟨ad', hA', _, b0, b1, b2, b3⟩ := hr.job hk
  injection hA' with hA'
  subst hA'
  have HS : Hid (soonB js i k = if js[i].d ≠ js[k].d then decide (js[i].d < js[k].d) else if js[i].t ≠ js[k].t then decide (js[i].t < js[k].t) else decide (i < k)) := by
    show _ = _
    unfold soonB
    rw [getD_at js j0 hi, getD_at js j0 hk]
  have hi0 : (0 : Int) ≤ i := by omega
  have hi1 : (i : Int) < js.length := by omega
  have hk0 : (0 : Int) ≤ k := by omega
  have hk1 : (k : Int) < js.length := by omega
  clear hr
  generalize js[i] = x at *
  generalize js[k] = y at *
  by_cases h1 : x.d = y.d
  · have e1 : (x.d != y.d) = false := by rw [h1]; simp
    by_cases h2 : x.t = y.t
    · have e2 : (x.t != y.t) = false := by rw [h2]; simp
      have HF : Hid (soonB js i k = decide (i < k)) := by show _ = _; rw [HS.out, if_neg (fun h => h h1), if_neg (fun h => h h2)]
      clear HS h1 h2
      go_enter Tryd.func40, Tryd.ntmps40
      go_wp2
      go_quiet (fail)
      go_wp2
      go_quiet (fail)
      go_wp2
      go_ret
      exact ⟨by rw [HF.out]; simp, _, by first | rfl | exact World.drewN_drewN .. | exact (World.drewN_drewN ..).trans (World.drewN_drewN ..)⟩
    · have e2 : (x.t != y.t) = true := by simpa using h2
      have HF : Hid (soonB js i k = decide (x.t < y.t)) := by show _ = _; rw [HS.out, if_neg (fun h => h h1), if_pos h2]
      clear HS h1 h2
      go_enter Tryd.func40, Tryd.ntmps40
      go_wp2
      go_quiet (fail)
      go_wp2
      go_quiet (fail)
      go_wp2
      go_quiet (fail)
      go_wp2
      go_ret
      exact ⟨by rw [HF.out]; rfl, _, by first | rfl | exact World.drewN_drewN .. | exact (World.drewN_drewN ..).trans (World.drewN_drewN ..)⟩
  · have e1 : (x.d != y.d) = true := by simpa using h1
    have HF : Hid (soonB js i k = decide (x.d < y.d)) := by show _ = _; rw [HS.out, if_pos h1]
    clear HS h1
    go_enter Tryd.func40, Tryd.ntmps40
    go_wp2
    go_quiet (fail)
    go_wp2
    go_quiet (fail)
    go_wp2
    go_ret
    exact ⟨by rw [HF.out]; rfl, _, by first | rfl | exact World.drewN_drewN .. | exact (World.drewN_drewN ..).trans (World.drewN_drewN ..)⟩
end
end Go.Proofs.YtllohccpnglloaaDoor
