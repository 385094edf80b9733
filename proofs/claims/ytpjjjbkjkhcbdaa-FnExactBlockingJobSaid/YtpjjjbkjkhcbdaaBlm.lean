/- BlockingJob of the model. -/
import Derived.Test.YtpjjjbkjkhcbdaaCrl
namespace Go.Proofs.Ytpjjjbkjkhcbdaa
open Go.RowKit
theorem block_hit {js : List J} (hg : goodL js = true) (h0 : 0 < js.length) {k : Nat} (hk : k < (critL js (greedyL js)).length) (hb : blockTo js (critL js (greedyL js)) (lastDue js (critL js (greedyL js))) (critL js (greedyL js)).length = blockTo js (critL js (greedyL js)) (lastDue js (critL js (greedyL js))) (k + 1)) (hd : lastDue js (critL js (greedyL js)) < dueN js (critL js (greedyL js))[k]) : blockR js = ((((critL js (greedyL js))[k] : Nat) : Int), true) := by
  unfold blockR blockL
  rw [if_pos ⟨hg, h0⟩, hb, blockTo_hit hk hd, if_pos (by omega)]
theorem block_none {js : List J} (hg : goodL js = true) (h0 : 0 < js.length) (hb : blockTo js (critL js (greedyL js)) (lastDue js (critL js (greedyL js))) (critL js (greedyL js)).length = blockTo js (critL js (greedyL js)) (lastDue js (critL js (greedyL js))) 0) : blockR js = (0, false) := by
  unfold blockR blockL
  rw [if_pos ⟨hg, h0⟩, hb, if_neg (by simp [blockTo])]
section
variable (A : Option Addr) (c : Nat) (js : List J) (w : World) (hr : Row w A (jc js)) (hn : js.length ≤ 10000000)
include hr hn
set_option maxRecDepth 100000 in
set_option maxHeartbeats 4000000 in
theorem spec_BlockingJob : Calls Try.prog 52 #[.slice A js.length c] w (RetNB w (blockR js)) := by
  cases hg : goodL js
  · have HR : Hid (blockR js = (0, false)) := by show _ = _; unfold blockR; rw [if_neg (by rw [hg]; simp)]
    go_enter Try.func52, Try.ntmps52
    go_wp2_with fail
    refine (l2Good_any A c js _ hr (by omega)).mono ?_
    rintro e w1 ⟨rfl, hb1⟩
    rw [hg]
    go_wp2
    go_ret2
    exact ⟨by rw [HR.out]; rfl, hb1⟩
  · by_cases h0 : 0 < js.length
    · have z1 : ((js.length : Int) == 0) = false := by rw [beq_eq_false_iff_ne]; omega
      have z2 : decide ((js.length : Int) = 0) = false := decide_eq_false (by omega)
      have HIT := Lib.hid (fun k => block_hit (js := js) hg h0 (k := k))
      have HNO := Lib.hid (block_none (js := js) hg h0)
      have HPA := Lib.hid (fun w1 hr1 => l5Part_any A c js w1 hr1 hg h0)
      have HMM := Lib.hid (critL_mem hg)
      have HOK := Lib.hid (good_out hg).2
      obtain ⟨hn0, hn8⟩ := critL_pos' hg h0
      have hr0 := Lib.hid hr
      clear hr
      go_enter Try.func52, Try.ntmps52
      go_wp2_with fail
      refine (l2Good_any A c js _ hr0.out (by omega)).mono ?_
      rintro e w1 ⟨rfl, hb1⟩
      rw [hg]
      clear hg
      have HB1 := Lib.hid hb1
      clear hb1
      go_wp2_with fail
      refine (HPA.out _ (hr0.out.below HB1.out)).mono ?_
      rintro e w2 ⟨v, rfl, ho, hb2⟩
      clear HPA
      generalize hl : critL js (greedyL js) = l at *
      clear hl
      obtain ⟨Ao, co, rfl, hnco, hrow⟩ := own_slice ho
      obtain ⟨go, _, hAo, _⟩ := own_block ho hn0
      obtain ⟨ao, hao⟩ : ∃ ao, Ao = some ao := ⟨_, hAo⟩
      subst hao
      have HO := Lib.hid (And.intro hrow (below_and HB1.out hb2))
      clear ho hrow hb2 HB1 hAo
      have hlp : l.length - 1 < l.length := by omega
      obtain ⟨a1, hA1, o1⟩ := HO.out.1.nat hlp
      injection hA1 with hA1
      subst hA1
      have hN0 : (0 : Int) ≤ (l.length : Int) - 1 := by omega
      have hN1 : (l.length : Int) - 1 < l.length := by omega
      have hN2 := IntWalk.i64_in ((l.length : Int) - 1) (by omega)
      have hN3 : ((l.length : Int) - 1).toNat = l.length - 1 := by omega
      have HLD : Hid (lastDue js l = dueN js (l[l.length - 1])) := by show _ = _; unfold lastDue; rw [getD_at l 0 hlp]
      have hyj : l[l.length - 1] < js.length := HMM.out _ (List.getElem_mem hlp)
      generalize l[l.length - 1] = y at *
      go_wp2
      go_loopw [6] (fun i wr => ∃ (k m : Nat) (z : Int), k ≤ l.length ∧ i = .int .i64 z ∧ z = (k : Int) - 1 ∧ Hid (blockTo js l (lastDue js l) l.length = blockTo js l (lastDue js l) k) ∧ wr = w2.drewN m) (fun i _ => (intOf i + 1).toNat)
      case atStart => exact ⟨l.length, 0, _, Nat.le_refl _, rfl, rfl, rfl, rfl⟩
      case round =>
        obtain ⟨k, m, z, hk, rfl, hz, hB, rfl⟩ := hrel
        by_cases hk0 : 0 < k
        · obtain ⟨j, hj⟩ : ∃ j, k = j + 1 := ⟨k - 1, by omega⟩
          subst hj
          obtain rfl : z = (j : Int) := by omega
          have hjl : j < l.length := by omega
          obtain ⟨a2, hA2, o2⟩ := HO.out.1.nat hjl
          injection hA2 with hA2
          subst hA2
          have hxj : l[j] < js.length := HMM.out _ (List.getElem_mem hjl)
          obtain ⟨ad, hA, _, e0, e1, e2, e3⟩ := (hr0.out.below HO.out.2).job hxj
          subst hA
          obtain ⟨ad2, hA, _, g0, g1, g2, g3⟩ := (hr0.out.below HO.out.2).job hyj
          injection hA with hA
          subst hA
          have hj0 : (0 : Int) ≤ j := by omega
          have hj1 : (j : Int) < l.length := by omega
          have hx0 : (0 : Int) ≤ l[j] := by omega
          have hx1 : (l[j] : Int) < js.length := by omega
          have hy0 : (0 : Int) ≤ y := by omega
          have hy1 : (y : Int) < js.length := by omega
          have hdx : dueN js l[j] = js[l[j]].d := by unfold dueN; rw [getD_at js j0 hxj]
          have hdy : dueN js y = js[y].d := by unfold dueN; rw [getD_at js j0 hyj]
          clear hz
          by_cases hc : dueN js y < dueN js l[j]
          · have HR := Lib.hid (HIT.out j hjl hB.out (by rw [HLD.out]; exact hc))
            rw [hdx, hdy] at hc
            clear hdx hdy hB
            generalize js[l[j]] = jx at *
            generalize js[y] = jy at *
            have d1 : decide (jy.d < jx.d) = true := decide_eq_true hc
            clear hxj
            generalize l[j] = x at *
            go_wp2
            go_quiet (fail)
            go_wp2
            go_ret2
            exact ⟨by rw [HR.out]; rfl, below_drewN HO.out.2 _⟩
          · have HB2 : Hid (blockTo js l (lastDue js l) l.length = blockTo js l (lastDue js l) j) := hB.out.trans (blockTo_miss hjl (by rw [HLD.out]; exact hc))
            rw [hdx, hdy] at hc
            clear hdx hdy hB
            generalize js[l[j]] = jx at *
            generalize js[y] = jy at *
            have d1 : decide (jy.d < jx.d) = false := decide_eq_false hc
            clear hxj
            generalize l[j] = x at *
            go_wp2
            go_quiet (fail)
            go_wp2
            go_roundw
            case rel => exact ⟨j, _, _, by omega, by go_num, by omega, HB2, rfl⟩
            case measure => simp [intOf]
        · obtain rfl : k = 0 := by omega
          have hz0 : ¬ (0 ≤ z) := by omega
          have HR := Lib.hid (HNO.out hB.out)
          go_wp2
          go_ret2
          exact ⟨by rw [HR.out]; rfl, below_drewN HO.out.2 _⟩
    · have z1 : ((js.length : Int) == 0) = true := by rw [beq_iff_eq]; omega
      have z2 : decide ((js.length : Int) = 0) = true := decide_eq_true (by omega)
      have HR : Hid (blockR js = (0, false)) := by show _ = _; unfold blockR; rw [if_neg (fun h => h0 h.2)]
      clear h0
      go_enter Try.func52, Try.ntmps52
      go_wp2_with fail
      refine (l2Good_any A c js _ hr (by omega)).mono ?_
      rintro e w1 ⟨rfl, hb1⟩
      rw [hg]
      go_wp2
      go_ret2
      exact ⟨by rw [HR.out]; rfl, hb1⟩
end
end Go.Proofs.Ytpjjjbkjkhcbdaa
