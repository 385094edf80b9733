/- IsJobShop: the program's. -/
import Derived.Test.YteidhjmnononaaaJwI
namespace Go.Proofs.Yteidhjmnononaaa
set_option linter.unusedSimpArgs false
set_option linter.unusedVariables false
open Go.RowKit
theorem row_takeO {w : World} {A : Option Addr} {r : List Pr} (h : Row w A (pc r)) (k : Nat) : Row w A (pc (r.take k)) := fun h0 => by
  obtain ⟨ad, e, hb, hc⟩ := h (by rw [pc_len] at h0 ⊢; rw [List.length_take] at h0; omega)
  have hp : pc r = pc (r.take k) ++ pc (r.drop k) := by unfold pc; rw [← List.flatMap_append, List.take_append_drop]
  refine ⟨ad, e, hb, fun j u hu => hc j u ?_⟩
  obtain ⟨hj, _⟩ := List.getElem?_eq_some_iff.1 hu
  rw [hp, List.getElem?_append_left hj]
  exact hu
set_option maxRecDepth 100000 in
set_option maxHeartbeats 4000000 in
theorem isRoute_any (m : Int) (A B : Option Addr) (n c d : Nat) (r : List Pr) (w : World) (hm : 1 ≤ m ∧ m ≤ 4) (hr : Row w B (pc r)) (hn : r.length ≤ 10000000) (hd : r.length ≤ d) :
    Calls Try.prog 29 #[.agg #[.int .i64 m, .slice A n c], .slice B r.length d] w fun e w' => e = .returned (.bool (routeB m r)) ∧ Below w.heap.size w w' := by
  have hb0 := (Below.refl w.heap.size w).alloc (Nat.le_refl _) (.cells #[.int .i64 m, .slice A n c] 32)
  have hx := BlockIs.new w 32 #[.int .i64 m, .slice A n c]
  have H0 := Lib.hid (And.intro hx hb0)
  have HR := Lib.hid (hr.below hb0)
  have HBAD := Lib.hid (fun i hi h => @route_bad m r i hi h)
  have HALL := Lib.hid (fun h => @route_all m r h)
  clear hb0 hx hr
  go_enter Try.func29, Try.ntmps29
  go_wp2
  go_loopw [9] (fun iv wr => ∃ k : Nat, k ≤ r.length ∧ iv = .int .i64 (k : Int) ∧ Hid (∀ i, i < k → opB m r i = true) ∧ Hid (Below (w.alloc (.cells #[.int .i64 m, .slice A n c] 32)).heap.size (w.alloc (.cells #[.int .i64 m, .slice A n c] 32)) wr)) (fun iv _ => r.length - (intOf iv).toNat)
  case atStart => exact ⟨0, Nat.zero_le _, rfl, fun _ h => absurd h (by omega), Below.refl _ _⟩
  case round =>
    obtain ⟨k, hk, rfl, HM, HB⟩ := hrel
    by_cases hlt : k < r.length
    · have hk0 : (0 : Int) ≤ k := by omega
      have hk1 : (k : Int) < r.length := by omega
      have hkd : (k : Int) ≤ d := by omega
      obtain ⟨pa, rfl, hpb, hc0, hc1⟩ := (HR.out.below HB.out).pair hlt
      have hrow := (HR.out.below HB.out)
      have HOP := Lib.hid (op_at (m := m) hlt)
      have HBK := Lib.hid (HBAD.out k hlt)
      have HM2 := Lib.hid (fun h => upto_step HM.out h)
      have hbx := (Below.refl wr.heap.size wr).alloc (Nat.le_refl _) (.cells #[.int .i64 r[k].1, .int .i64 r[k].2] 65)
      have HX := Lib.hid (BlockIs.new wr 65 #[.int .i64 r[k].1, .int .i64 r[k].2])
      have hs0 := ((H0.out.1.below HB.out).below hbx).cell 0
      have hs1 := ((H0.out.1.below HB.out).below hbx).cell 1
      simp only [List.getElem?_toArray, List.getElem?_cons_zero, List.getElem?_cons_succ] at hs0 hs1
      have hI := isMachine_any m r[k].1 A n c (wr.alloc (.cells #[.int .i64 r[k].1, .int .i64 r[k].2] 65))
      have htl : (r.take k).length = k := by rw [List.length_take]; omega
      have HTL := Lib.hid htl
      clear HM HBAD HALL htl
      generalize r[k] = x at *
      obtain ⟨x1, x2⟩ := x
      cases h1 : inB x1 0 (m - 1)
      · have HV : Hid (opB m r k = false) := by show _ = _; rw [HOP.out, h1]; rfl
        rw [h1] at hI
        have HIM := Lib.hid hI
        clear hI HOP h1
        go_wp2_with fail
        refine HIM.out.mono ?_
        rintro e w1 ⟨rfl, hb1⟩
        have hb1' : Below wr.heap.size wr w1 := hbx.trans (hb1.mono (by simp))
        have HBW := Lib.hid (HB.out.trans (hb1'.mono HB.out.size))
        have HBF := Lib.hid (H0.out.2.trans (HBW.out.mono H0.out.2.size))
        have HX1 := Lib.hid (HX.out.below hb1)
        have HROW1 := Lib.hid (hrow.below hb1')
        have d0 := HX1.out.cell 0
        have d1 := HX1.out.cell 1
        simp only [List.getElem?_toArray, List.getElem?_cons_zero, List.getElem?_cons_succ] at d0 d1
        clear hb1 hb1' hbx hrow HX HIM
        have HVV := Lib.hid (HBK.out HV.out)
        clear HM2
        go_wp2
        go_ret
        exact ⟨by rw [HVV.out]; rfl, HBF.out⟩
      · rw [h1] at hI
        have HIM := Lib.hid hI
        clear hI
        by_cases ha : x2 < 1
        · have HV : Hid (opB m r k = false) := by show _ = _; rw [HOP.out, h1, inB_no (x := x2) (a := 1) (b := 20) (by omega)]; rfl
          clear HOP h1
          go_wp2_with fail
          refine HIM.out.mono ?_
          rintro e w1 ⟨rfl, hb1⟩
          have hb1' : Below wr.heap.size wr w1 := hbx.trans (hb1.mono (by simp))
          have HBW := Lib.hid (HB.out.trans (hb1'.mono HB.out.size))
          have HBF := Lib.hid (H0.out.2.trans (HBW.out.mono H0.out.2.size))
          have HX1 := Lib.hid (HX.out.below hb1)
          have HROW1 := Lib.hid (hrow.below hb1')
          have d0 := HX1.out.cell 0
          have d1 := HX1.out.cell 1
          simp only [List.getElem?_toArray, List.getElem?_cons_zero, List.getElem?_cons_succ] at d0 d1
          clear hb1 hb1' hbx hrow HX HIM
          have HVV := Lib.hid (HBK.out HV.out)
          clear HM2
          go_wp2
          go_ret
          exact ⟨by rw [HVV.out]; rfl, HBF.out⟩
        · by_cases hb20 : 20 < x2
          · have HV : Hid (opB m r k = false) := by show _ = _; rw [HOP.out, h1, inB_no (x := x2) (a := 1) (b := 20) (by omega)]; rfl
            clear HOP h1
            go_wp2_with fail
            refine HIM.out.mono ?_
            rintro e w1 ⟨rfl, hb1⟩
            have hb1' : Below wr.heap.size wr w1 := hbx.trans (hb1.mono (by simp))
            have HBW := Lib.hid (HB.out.trans (hb1'.mono HB.out.size))
            have HBF := Lib.hid (H0.out.2.trans (HBW.out.mono H0.out.2.size))
            have HX1 := Lib.hid (HX.out.below hb1)
            have HROW1 := Lib.hid (hrow.below hb1')
            have d0 := HX1.out.cell 0
            have d1 := HX1.out.cell 1
            simp only [List.getElem?_toArray, List.getElem?_cons_zero, List.getElem?_cons_succ] at d0 d1
            clear hb1 hb1' hbx hrow HX HIM
            have HVV := Lib.hid (HBK.out HV.out)
            clear HM2
            go_wp2
            go_ret
            exact ⟨by rw [HVV.out]; rfl, HBF.out⟩
          · have hVV : opB m r k = !hasI (machs (r.take k)) x1 := by rw [HOP.out, h1, inB_yes (x := x2) (a := 1) (b := 20) (by omega) (by omega)]; rfl
            clear HOP h1
            go_wp2_with fail
            refine HIM.out.mono ?_
            rintro e w1 ⟨rfl, hb1⟩
            have hb1' : Below wr.heap.size wr w1 := hbx.trans (hb1.mono (by simp))
            have HBW := Lib.hid (HB.out.trans (hb1'.mono HB.out.size))
            have HBF := Lib.hid (H0.out.2.trans (HBW.out.mono H0.out.2.size))
            have HX1 := Lib.hid (HX.out.below hb1)
            have HROW1 := Lib.hid (hrow.below hb1')
            have d0 := HX1.out.cell 0
            have d1 := HX1.out.cell 1
            simp only [List.getElem?_toArray, List.getElem?_cons_zero, List.getElem?_cons_succ] at d0 d1
            clear hb1 hb1' hbx hrow HX HIM
            have hC := containsOp_any (some pa) d (r.take k) wr.heap.size k x1 x2 w1 HTL.out.symm (row_takeO HROW1.out k) (by rw [HTL.out]; omega) HX1.out
            cases h3 : hasI (machs (r.take k)) x1
            · rw [h3] at hC hVV
              have HC := Lib.hid hC
              have HM3 := Lib.hid (HM2.out hVV)
              clear hC h3 hVV HM2 HBK HROW1 HX1
              go_wp2_with fail
              refine HC.out.mono ?_
              rintro e w2 ⟨rfl, hb2⟩
              have HB2 := Lib.hid (HBW.out.trans (hb2.mono HBW.out.size))
              clear hb2
              go_wp2
              go_roundw
              case rel => exact ⟨k + 1, by omega, by go_num, HM3.out, HB2.out⟩
              case measure => simp [intOf]; omega
            · rw [h3] at hC hVV
              have HC := Lib.hid hC
              have HVV := Lib.hid (HBK.out hVV)
              clear hC h3 hVV HM2 HBK HROW1 HX1
              go_wp2_with fail
              refine HC.out.mono ?_
              rintro e w2 ⟨rfl, hb2⟩
              have HB2 := Lib.hid (HBF.out.trans (hb2.mono HBF.out.size))
              clear hb2
              go_wp2
              go_ret
              exact ⟨by rw [HVV.out]; rfl, HB2.out⟩
    · obtain rfl : k = r.length := by omega
      have HR2 := Lib.hid (HALL.out HM.out)
      have HBF := Lib.hid (H0.out.2.trans (HB.out.mono H0.out.2.size))
      clear HALL HBAD
      go_wp2
      go_ret
      exact ⟨by rw [HR2.out]; rfl, HBF.out⟩
set_option maxRecDepth 100000 in
set_option maxHeartbeats 4000000 in
theorem impl_IsJobShop (A : Option Addr) (c : Nat) (m : Int) (xss : List (List Pr)) (w : World) (hr : RowX pc w A xss) (hn : xss.length ≤ 10000000 ∧ (lensX xss).sum ≤ 10000000) :
    Calls Try.prog 18 #[.agg #[.int .i64 m, .slice A xss.length c]] w fun e w' => e = .returned (.bool (jshB m xss)) ∧ Below w.heap.size w w' := by
  have hb0 := (Below.refl w.heap.size w).alloc (Nat.le_refl _) (.cells #[.int .i64 m, .slice A xss.length c] 32)
  have hx := BlockIs.new w 32 #[.int .i64 m, .slice A xss.length c]
  have H0 := Lib.hid (And.intro hx hb0)
  have HR := Lib.hid (hr.below hb0)
  have HLN := Lib.hid (fun k (hk : k < xss.length) => by have h := sum_get_le (lensX xss) k (by rw [lensX_len]; exact hk); rw [lensX_get xss k hk] at h; exact Nat.le_trans h hn.2)
  have HSUM := Lib.hid (fun i => Nat.le_trans (sum_take_le (lensX xss) i) hn.2)
  have HSS := Lib.hid (fun i (hi : i < xss.length) => by have h := sum_take_succ (lensX xss) i (by rw [lensX_len]; exact hi); rw [lensX_get xss i hi] at h; exact h)
  have d0 := H0.out.1.cell 0
  have d1 := H0.out.1.cell 1
  simp only [List.getElem?_toArray, List.getElem?_cons_zero, List.getElem?_cons_succ] at d0 d1
  clear hb0 hx hr
  by_cases h1 : m < 1
  · have HV := Lib.hid (jsh_1 (m := m) (xss := xss) (inB_no (by omega)))
    go_enter Try.func18, Try.ntmps18
    go_wp2
    go_ret
    exact ⟨by rw [HV.out]; rfl, H0.out.2⟩
  · by_cases h2 : 4 < m
    · have HV := Lib.hid (jsh_1 (m := m) (xss := xss) (inB_no (by omega)))
      go_enter Try.func18, Try.ntmps18
      go_wp2
      go_ret
      exact ⟨by rw [HV.out]; rfl, H0.out.2⟩
    · by_cases h4 : xss.length ≤ 4
      · have h4c : ¬ (4 : Int) < (xss.length : Int) := by omega
        have hm : 1 ≤ m ∧ m ≤ 4 := ⟨by omega, by omega⟩
        have H3 := Lib.hid (fun i hi h => @jsh_3 m xss i hi h)
        have H4 := Lib.hid (fun h => @jsh_4 m xss (inB_yes hm.1 hm.2) h4 h)
        go_enter Try.func18, Try.ntmps18
        go_wp2
        clear d0 d1
        go_loopw [3, 23] (fun nv iv wr => ∃ k : Nat, k ≤ xss.length ∧ nv = .int .i64 (((lensX xss).take k).sum : Nat) ∧ iv = .int .i64 (k : Int) ∧ Hid (∀ i, i < k → ∀ hi : i < xss.length, routeB m xss[i] = true) ∧ Hid (Below (w.alloc (.cells #[.int .i64 m, .slice A xss.length c] 32)).heap.size (w.alloc (.cells #[.int .i64 m, .slice A xss.length c] 32)) wr)) (fun _ iv _ => xss.length - (intOf iv).toNat)
        case atStart => exact ⟨0, Nat.zero_le _, by first | rfl | go_num, rfl, fun _ h => absurd h (by omega), Below.refl _ _⟩
        case round =>
          obtain ⟨k, hk, rfl, rfl, HM, HB⟩ := hrel
          have d0 := (H0.out.1.below HB.out).cell 0
          have d1 := (H0.out.1.below HB.out).cell 1
          simp only [List.getElem?_toArray, List.getElem?_cons_zero, List.getElem?_cons_succ] at d0 d1
          by_cases hlt : k < xss.length
          · have hk0 : (0 : Int) ≤ k := by omega
            have hk1 : (k : Int) < xss.length := by omega
            obtain ⟨ad, B, d, rfl, _, hc, hrow, hcd⟩ := (HR.out.below HB.out).at_ hlt
            have hC := isRoute_any m (some ad) B xss.length c d xss[k] wr hm hrow (HLN.out k hlt) hcd
            have HM2 := Lib.hid (fun (h : routeB m xss[k] = true) => upto_step (P := fun i => ∀ hi : i < xss.length, routeB m xss[i] = true) HM.out (fun _ => h))
            have H3k := Lib.hid (H3.out k hlt)
            have hs1 := HSS.out k hlt
            have hs2 := HSUM.out (k + 1)
            rw [hs1] at hs2
            have HE : Hid ((((lensX xss).take (k + 1)).sum : Int) = (((lensX xss).take k).sum : Int) + (xss[k].length : Int)) := by show _ = _; omega
            have hpn : (0 : Int) ≤ (((lensX xss).take k).sum : Int) + (xss[k].length : Int) := by omega
            have hw := IntWalk.i64_in ((((lensX xss).take k).sum : Int) + (xss[k].length : Int)) (by omega)
            clear HM H3 H4 HLN hrow HR HSS HSUM hs1 hs2
            generalize xss[k] = r at *
            generalize ((lensX xss).take k).sum = s at *
            cases hrt : routeB m r
            · rw [hrt] at hC
              have HC := Lib.hid hC
              have HV := Lib.hid (H3k.out hrt)
              clear hrt HM2 H3k hC
              go_wp2_with fail
              refine HC.out.mono ?_
              rintro e w1 ⟨rfl, hb1⟩
              have HBF := Lib.hid (H0.out.2.trans ((HB.out.trans (hb1.mono HB.out.size)).mono H0.out.2.size))
              clear hb1
              go_wp2
              go_ret
              exact ⟨by rw [HV.out]; rfl, HBF.out⟩
            · rw [hrt] at hC
              have HC := Lib.hid hC
              have HM3 := Lib.hid (HM2.out hrt)
              clear hrt HM2 H3k hC
              go_wp2_with fail
              refine HC.out.mono ?_
              rintro e w1 ⟨rfl, hb1⟩
              have HB2 := Lib.hid (HB.out.trans (hb1.mono HB.out.size))
              clear hb1
              go_wp2
              go_roundw
              case rel => exact ⟨k + 1, by omega, by rw [HE.out], by go_num, HM3.out, HB2.out⟩
              case measure => simp [intOf]; omega
          · obtain rfl : k = xss.length := by omega
            have HV := Lib.hid (H4.out (fun i hi => HM.out i hi hi))
            have HBF := Lib.hid (H0.out.2.trans (HB.out.mono H0.out.2.size))
            have hF : ((lensX xss).take xss.length).sum = (lensX xss).sum := by rw [List.take_of_length_le (by rw [lensX_len]; exact Nat.le_refl _)]
            rw [hF]
            clear H3 H4 HLN HM hF HSUM HSS
            generalize (lensX xss).sum = s at *
            by_cases hs : s ≤ 12
            · rw [decide_eq_true hs] at HV
              go_wp2
              go_ret
              exact ⟨by rw [HV.out]; first | rfl | simp [results, go_sem]; omega, HBF.out⟩
            · rw [decide_eq_false hs] at HV
              go_wp2
              go_ret
              exact ⟨by rw [HV.out]; first | rfl | simp [results, go_sem]; omega, HBF.out⟩
      · have HV := Lib.hid (jsh_2 (m := m) h4)
        have h4c : (4 : Int) < (xss.length : Int) := by omega
        go_enter Try.func18, Try.ntmps18
        go_wp2
        go_ret
        exact ⟨by rw [HV.out]; rfl, H0.out.2⟩
end Go.Proofs.Yteidhjmnononaaa
