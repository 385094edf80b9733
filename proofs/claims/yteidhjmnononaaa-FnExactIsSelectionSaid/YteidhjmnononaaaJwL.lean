/- IsSelection: the model's side. -/
import Derived.Test.YteidhjmnononaaaJwT
import Derived.Test.YteidhjmnononaaaJwK
import Derived.Test.YteidhjmnononaaaSegS
import Derived.Test.YteidhjmnononaaaRegY
import Derived.Test.YteidhjmnononaaaRetBB
namespace Go.Proofs.Yteidhjmnononaaa
set_option linter.unusedSimpArgs false
set_option linter.unusedVariables false
set_option linter.unusedSectionVars false
open Go.RowKit
theorem hasI_dec (o : List Int) (x : Int) : hasI o x = decide (x ∈ o) := by
  rfl
theorem sel_len (m : Int) (xss : List (List Pr)) (oss : List (List Int)) (h : ¬ (oss.length : Int) = m) : selB m xss oss = false := by
  unfold selB
  rw [decide_eq_false h, Bool.false_and]
set_option maxRecDepth 100000 in
set_option maxHeartbeats 4000000 in
theorem l9Selects_any (m : Int) (A B : Option Addr) (c d : Nat) (xss : List (List Pr)) (oss : List (List Int)) (w : World) (hr : RowX pc w A xss) (hq : RowSS w B (oss.map ic)) (hs : (lensX xss).sum ≤ 12) (h4 : xss.length ≤ 4) (hn : oss.length ≤ 10000000) (hw : ∀ xs ∈ oss, xs.length ≤ 10000000) :
    Calls Try.prog 15 #[.agg #[.int .i64 m, .slice A xss.length c], .slice B oss.length d] w fun e w' => e = .returned (.bool (selB m xss oss)) ∧ Below w.heap.size w w' := by
  have hb0 := (Below.refl w.heap.size w).alloc (Nat.le_refl _) (.cells #[.int .i64 m, .slice A xss.length c] 32)
  have hx := BlockIs.new w 32 #[.int .i64 m, .slice A xss.length c]
  have hr0 := hr.below hb0
  have HL9 := Lib.hid (fun (k : Int) W (hb : Below w.heap.size w W) => l9On_any m A c xss k W (hr.below hb) hs h4)
  have HQ := Lib.hid hq
  have HWL := Lib.hid hw
  have HX := Lib.hid (And.intro hb0 hx)
  have d0 := hx.cell 0
  have d1 := hx.cell 1
  simp only [List.getElem?_toArray, List.getElem?_cons_zero, List.getElem?_cons_succ] at d0 d1
  by_cases hm : (oss.length : Int) = m
  · have HSEL : Hid (selB m xss oss = selTo (opsJ xss) oss oss.length) := by show _ = _; unfold selB; rw [decide_eq_true hm, Bool.true_and]
    have HLO := Lib.hid (fun (q : Int) => onI_len (opsJ xss) q)
    have HLN : Hid ((opsJ xss).length ≤ 12) := by show _ ≤ _; rw [opsJ_len]; exact hs
    have HON : Hid (∀ q : Int, natI (onL (opsJ xss) q (opsJ xss).length) = onI (opsJ xss) q) := fun _ => rfl
    have HOL : Hid (∀ q : Int, (onL (opsJ xss) q (opsJ xss).length).length = (onI (opsJ xss) q).length) := fun q => by unfold onI; simp
    clear hb0 hx hr0 hr hs h4 hq hw
    generalize opsJ xss = l at *
    generalize selB m xss oss = res at *
    go_enter Try.func15, Try.ntmps15
    go_wp2
    go_loopw [5] (fun iv wr => ∃ k : Nat, k ≤ oss.length ∧ iv = .int .i64 (k : Int) ∧ Hid (selTo l oss k = true) ∧ Hid (Below w.heap.size w wr ∧ BlockIs wr w.heap.size 32 #[.int .i64 m, .slice A xss.length c])) (fun iv _ => oss.length - (intOf iv).toNat)
    case atStart => exact ⟨0, Nat.zero_le _, rfl, rfl, HX.out⟩
    case round =>
      obtain ⟨k, hk, rfl, HT, HK⟩ := hrel
      clear d0 d1
      by_cases hlt : k < oss.length
      · have hk0 : (0 : Int) ≤ k := by omega
        have hk1 : (k : Int) < oss.length := by omega
        have d0 := HK.out.2.cell 0
        have d1 := HK.out.2.cell 1
        simp only [List.getElem?_toArray, List.getElem?_cons_zero, List.getElem?_cons_succ] at d0 d1
        have HCK := Lib.hid (HL9.out (k : Int) wr HK.out.1)
        go_wp2_with fail
        refine HCK.out.mono ?_
        rintro e w3 ⟨v, n, rfl, hnn, ho, hb3⟩
        rw [HON.out] at ho
        rw [HOL.out] at hnn
        subst hnn
        obtain ⟨A2, c2, rfl, _, _⟩ := own_slice ho
        have HW3 := Lib.hid (Row.of_own ho)
        have HK3 := Lib.hid (And.intro (HK.out.1.trans (hb3.mono HK.out.1.size)) (HK.out.2.below hb3))
        have HSC := Lib.hid (selTo_succ l oss hlt)
        have HSN := Lib.hid (fun h => selTo_no l oss hlt h)
        have hlw := HLO.out (k : Int)
        have hll := HLN.out
        have how := HWL.out _ (List.getElem_mem hlt)
        have HRS : Hid (∃ ad Bk dk, B = some ad ∧ ∀ W, Below w.heap.size w W → W.cell? (ad.add k) = some (.slice Bk oss[k].length dk) ∧ Row W Bk (ic oss[k])) := by
          obtain ⟨ad, Bk, dk, hB, hc, hrw⟩ := HQ.out.at_ (k := k) (by simpa using hlt)
          simp only [List.getElem_map, ic_len] at hc hrw
          exact ⟨ad, Bk, dk, hB, fun W hb => ⟨(hb.cell (lt_of_cell hc)).trans hc, hrw.below hb⟩⟩
        obtain ⟨ad, Bk, dk, hB, hrs⟩ := HRS.out
        have HRO := Lib.hid hrs
        subst hB
        clear hrs HRS d0 d1 ho hb3 HCK HON HOL HLO HLN HWL HL9 HK HX
        generalize onI l (k : Int) = W at *
        generalize oss[k] = od at *
        go_wp2
        go_loopw [7] (fun jv wq => ∃ i : Nat, i ≤ W.length ∧ jv = .int .i64 (i : Int) ∧ Hid (hasTo W od i = true) ∧ Hid (Below w3.heap.size w3 wq)) (fun jv _ => W.length - (intOf jv).toNat)
        case atStart => exact ⟨0, Nat.zero_le _, rfl, rfl, Below.refl _ _⟩
        case round =>
          obtain ⟨i, hi, rfl, HH, HB⟩ := hrel
          by_cases hli : i < W.length
          · have hi0 : (0 : Int) ≤ i := by omega
            have hi1 : (i : Int) < W.length := by omega
            have HHS := Lib.hid (hasTo_succ od hli)
            have HHL := Lib.hid (fun h => @hasTo_le W od (i + 1) h)
            obtain ⟨a2, rfl, hcx⟩ := (HW3.out).int hli
            have HCX := Lib.hid hcx
            clear hcx
            generalize W[i] = x at *
            have kb : ∀ {X Y : World}, Below w3.heap.size w3 X → Below X.heap.size X Y → Below w3.heap.size w3 Y := fun h hb => h.trans (hb.mono h.size)
            go_wp2
            refine wp_region_detY (by kernel_rfl) (fun L w' => Below w3.heap.size w3 w') (fun kk => (#[.slice (some ad) oss.length d, .int .i64 (k : Int), .pointer (some (ad.add k)), .slice Bk od.length dk, .slice (some a2) W.length c2, .int .i64 (i : Int), .pointer (some (a2.add i)), .int .i64 x, .bool (hasI od x), .bool (!hasI od x)] : Array Value).getD kk undef) (by kernel_rfl) (by kernel_rfl) HB.out.drew ?_ ?_
            · intro L tm w' hall hS hsz hlow hval
              have ht : tm = #[.agg #[.int .i64 m, .slice A xss.length c], .slice (some ad) oss.length d, .pointer (some ⟨w.heap.size, 0, none⟩), undef, u4, .int .i64 (k : Int), .slice (some a2) W.length c2, .int .i64 (i : Int), .slice (some ad) oss.length d, .int .i64 m, .pointer (some ⟨w.heap.size, 0, none⟩), .int .i64 m, .bool false, .int .i64 (k : Int), .slice (some ad) oss.length d, .int .i64 m, .bool true, u17, u18, .agg #[.int .i64 m, .slice A xss.length c], .int .i64 (k : Int), .slice (some a2) W.length c2, .int .i64 (i : Int), .slice (some a2) W.length c2, .int .i64 (W.length : Int), .bool true, u26, u27, .slice (some ad) oss.length d, .int .i64 (k : Int), .pointer (some (ad.add k)), .slice Bk od.length dk, .slice (some a2) W.length c2, .int .i64 (i : Int), .pointer (some (a2.add i)), .int .i64 x, .bool (hasI od x), .bool (!hasI od x), u38, u39, u40, u41, u42, u43, u44, u45] := by
                refine arr_of _ _ hsz fun t ht => ?_
                have ht' : t < 46 := ht
                rcases (by omega : t = 0 ∨ t = 1 ∨ t = 2 ∨ t = 3 ∨ t = 4 ∨ t = 5 ∨ t = 6 ∨ t = 7 ∨ t = 8 ∨ t = 9 ∨ t = 10 ∨ t = 11 ∨ t = 12 ∨ t = 13 ∨ t = 14 ∨ t = 15 ∨ t = 16 ∨ t = 17 ∨ t = 18 ∨ t = 19 ∨ t = 20 ∨ t = 21 ∨ t = 22 ∨ t = 23 ∨ t = 24 ∨ t = 25 ∨ t = 26 ∨ t = 27 ∨ t = 28 ∨ t = 29 ∨ t = 30 ∨ t = 31 ∨ t = 32 ∨ t = 33 ∨ t = 34 ∨ t = 35 ∨ t = 36 ∨ t = 37 ∨ t = 38 ∨ t = 39 ∨ t = 40 ∨ t = 41 ∨ t = 42 ∨ t = 43 ∨ t = 44 ∨ t = 45) with rfl | rfl | rfl | rfl | rfl | rfl | rfl | rfl | rfl | rfl | rfl | rfl | rfl | rfl | rfl | rfl | rfl | rfl | rfl | rfl | rfl | rfl | rfl | rfl | rfl | rfl | rfl | rfl | rfl | rfl | rfl | rfl | rfl | rfl | rfl | rfl | rfl | rfl | rfl | rfl | rfl | rfl | rfl | rfl | rfl | rfl
                · exact hlow 0 (by kernel_rfl)
                · exact hlow 1 (by kernel_rfl)
                · exact hlow 2 (by kernel_rfl)
                · exact hlow 3 (by kernel_rfl)
                · exact hlow 4 (by kernel_rfl)
                · exact hlow 5 (by kernel_rfl)
                · exact hlow 6 (by kernel_rfl)
                · exact hlow 7 (by kernel_rfl)
                · exact hlow 8 (by kernel_rfl)
                · exact hlow 9 (by kernel_rfl)
                · exact hlow 10 (by kernel_rfl)
                · exact hlow 11 (by kernel_rfl)
                · exact hlow 12 (by kernel_rfl)
                · exact hlow 13 (by kernel_rfl)
                · exact hlow 14 (by kernel_rfl)
                · exact hlow 15 (by kernel_rfl)
                · exact hlow 16 (by kernel_rfl)
                · exact hlow 17 (by kernel_rfl)
                · exact hlow 18 (by kernel_rfl)
                · exact hlow 19 (by kernel_rfl)
                · exact hlow 20 (by kernel_rfl)
                · exact hlow 21 (by kernel_rfl)
                · exact hlow 22 (by kernel_rfl)
                · exact hlow 23 (by kernel_rfl)
                · exact hlow 24 (by kernel_rfl)
                · exact hlow 25 (by kernel_rfl)
                · exact hlow 26 (by kernel_rfl)
                · exact hlow 27 (by kernel_rfl)
                · exact hval 0 _ 28 rfl rfl
                · exact hval 1 _ 29 rfl rfl
                · exact hval 2 _ 30 rfl rfl
                · exact hval 3 _ 31 rfl rfl
                · exact hval 4 _ 32 rfl rfl
                · exact hval 5 _ 33 rfl rfl
                · exact hval 6 _ 34 rfl rfl
                · exact hval 7 _ 35 rfl rfl
                · exact hval 8 _ 36 rfl rfl
                · exact hval 9 _ 37 rfl rfl
                · exact hlow 38 (by kernel_rfl)
                · exact hlow 39 (by kernel_rfl)
                · exact hlow 40 (by kernel_rfl)
                · exact hlow 41 (by kernel_rfl)
                · exact hlow 42 (by kernel_rfl)
                · exact hlow 43 (by kernel_rfl)
                · exact hlow 44 (by kernel_rfl)
                · exact hlow 45 (by kernel_rfl)
              subst ht
              have HF := Lib.hid hS
              clear hlow hval hsz hall hS
              by_cases hy : hasI od x = true
              · have HH2 : Hid (hasTo W od (i + 1) = true) := by show _ = _; rw [HHS.out, HH.out, ← hasI_dec, hy]; rfl
                rw [hy]
                clear HHS HHL HH
                go_wp2
                go_roundw
                case rel => exact ⟨i + 1, by omega, by go_num, HH2.out, HF.out⟩
                case measure => simp [intOf]; omega
              · have hy' : hasI od x = false := by simpa using hy
                have HH2 : Hid (hasTo W od (i + 1) = false) := by show _ = _; rw [HHS.out, HH.out, ← hasI_dec, hy']; rfl
                rw [hy']
                have HRR : Hid (res = false) := HSEL.out.trans (HSN.out (HHL.out HH2.out))
                have HBB := Lib.hid (HK3.out.1.trans (HF.out.mono HK3.out.1.size))
                clear HHS HHL HH HSEL HSN HSC
                go_wp2
                go_ret
                exact ⟨by rw [HRR.out]; rfl, HBB.out⟩
            · intro L ac w' q op hLs hop hLi hLd hLn hS0 hlow hdep _
              have hq : q < 10 := (Array.getElem?_eq_some_iff.1 hop).1
              rcases (by omega : q = 0 ∨ q = 1 ∨ q = 2 ∨ q = 3 ∨ q = 4 ∨ q = 5 ∨ q = 6 ∨ q = 7 ∨ q = 8 ∨ q = 9) with rfl | rfl | rfl | rfl | rfl | rfl | rfl | rfl | rfl | rfl
              · obtain rfl := Option.some.inj hop
                have e1 : ac.tmps[1]?.getD undef = .slice (some ad) oss.length d := (Array.getD_eq_getD_getElem? ..).symm.trans (hlow 1 (by kernel_rfl))
                exact ⟨wanted_free rfl, .inl (.inl ⟨w', by simp [execOp, Act.eval, e1, go_sem], hS0⟩)⟩
              · obtain rfl := Option.some.inj hop
                have e5 : ac.tmps[5]?.getD undef = .int .i64 (k : Int) := (Array.getD_eq_getD_getElem? ..).symm.trans (hlow 5 (by kernel_rfl))
                exact ⟨wanted_free rfl, .inl (.inl ⟨w', by simp [execOp, Act.eval, e5, go_sem], hS0⟩)⟩
              · obtain rfl := Option.some.inj hop
                have e28 : ac.tmps[28]?.getD undef = .slice (some ad) oss.length d := (Array.getD_eq_getD_getElem? ..).symm.trans (hdep 0 _ 28 (by kernel_rfl) rfl rfl)
                have e29 : ac.tmps[29]?.getD undef = .int .i64 (k : Int) := (Array.getD_eq_getD_getElem? ..).symm.trans (hdep 1 _ 29 (by kernel_rfl) rfl rfl)
                exact ⟨wanted_free rfl, .inl (.inl ⟨w', by simp [execOp, Act.eval, e28, e29, hk0, hk1, go_sem], hS0⟩)⟩
              · obtain rfl := Option.some.inj hop
                have e30 : ac.tmps[30]?.getD undef = .pointer (some (ad.add k)) := (Array.getD_eq_getD_getElem? ..).symm.trans (hdep 2 _ 30 (by kernel_rfl) rfl rfl)
                have q0 := (HRO.out _ (HK3.out.1.trans (hS0.mono HK3.out.1.size))).1
                exact ⟨wanted_free rfl, .inl (.inl ⟨w', by simp [execOp, Act.eval, e30, q0, go_sem], hS0⟩)⟩
              · obtain rfl := Option.some.inj hop
                have e6 : ac.tmps[6]?.getD undef = .slice (some a2) W.length c2 := (Array.getD_eq_getD_getElem? ..).symm.trans (hlow 6 (by kernel_rfl))
                exact ⟨wanted_free rfl, .inl (.inl ⟨w', by simp [execOp, Act.eval, e6, go_sem], hS0⟩)⟩
              · obtain rfl := Option.some.inj hop
                have e7 : ac.tmps[7]?.getD undef = .int .i64 (i : Int) := (Array.getD_eq_getD_getElem? ..).symm.trans (hlow 7 (by kernel_rfl))
                exact ⟨wanted_free rfl, .inl (.inl ⟨w', by simp [execOp, Act.eval, e7, go_sem], hS0⟩)⟩
              · obtain rfl := Option.some.inj hop
                have e32 : ac.tmps[32]?.getD undef = .slice (some a2) W.length c2 := (Array.getD_eq_getD_getElem? ..).symm.trans (hdep 4 _ 32 (by kernel_rfl) rfl rfl)
                have e33 : ac.tmps[33]?.getD undef = .int .i64 (i : Int) := (Array.getD_eq_getD_getElem? ..).symm.trans (hdep 5 _ 33 (by kernel_rfl) rfl rfl)
                exact ⟨wanted_free rfl, .inl (.inl ⟨w', by simp [execOp, Act.eval, e32, e33, hi0, hi1, go_sem], hS0⟩)⟩
              · obtain rfl := Option.some.inj hop
                have e34 : ac.tmps[34]?.getD undef = .pointer (some (a2.add i)) := (Array.getD_eq_getD_getElem? ..).symm.trans (hdep 6 _ 34 (by kernel_rfl) rfl rfl)
                have q1 := (hS0.cell (lt_of_cell HCX.out)).trans HCX.out
                exact ⟨wanted_free rfl, .inl (.inl ⟨w', by simp [execOp, Act.eval, e34, q1, go_sem], hS0⟩)⟩
              · obtain rfl := Option.some.inj hop
                have e31 : ac.tmps[31]?.getD undef = .slice Bk od.length dk := (Array.getD_eq_getD_getElem? ..).symm.trans (hdep 3 _ 31 (by kernel_rfl) rfl rfl)
                have e35 : ac.tmps[35]?.getD undef = .int .i64 x := (Array.getD_eq_getD_getElem? ..).symm.trans (hdep 7 _ 35 (by kernel_rfl) rfl rfl)
                refine ⟨wanted_free rfl, .inl (.inr ⟨27, #[.slice Bk od.length dk, .int .i64 x], by simp [execOp, Act.eval, e31, e35, go_sem], ((l1Has_any Bk dk od x w' (HRO.out _ (HK3.out.1.trans (hS0.mono HK3.out.1.size))).2 (by omega)).mono fun e w2 h => (show e = .returned (.bool (hasI od x)) ∧ Below w'.heap.size w' w2 from ⟨h.1, h.2 ▸ Below.refl _ _⟩)).mono ?_⟩)⟩
                rintro e w2 ⟨rfl, hb⟩
                exact ⟨rfl, kb hS0 hb⟩
              · obtain rfl := Option.some.inj hop
                have e36 : ac.tmps[36]?.getD undef = .bool (hasI od x) := (Array.getD_eq_getD_getElem? ..).symm.trans (hdep 8 _ 36 (by kernel_rfl) rfl rfl)
                exact ⟨wanted_free rfl, .inl (.inl ⟨w', by simp [execOp, Act.eval, e36, go_sem], hS0⟩)⟩
          · obtain rfl : i = W.length := by omega
            have HHA := Lib.hid (hasTo_all HH.out)
            have hbq := HK3.out.1.trans (HB.out.mono HK3.out.1.size)
            obtain ⟨hc1, _⟩ := HRO.out wr hbq
            have HBQ := Lib.hid hbq
            have HXQ := Lib.hid (HK3.out.2.below HB.out)
            clear hbq
            by_cases hl : od.length = W.length
            · have HT2 : Hid (selTo l oss (k + 1) = true) := HSC.out.trans (by rw [HT.out, HHA.out, decide_eq_true hl]; rfl)
              have hne : ((od.length : Int) != (W.length : Int)) = false := by simp [hl]
              clear HHA hl HSC HSN HSEL HRO HK3 HB HH HT
              go_wp2
              go_roundw
              case rel => exact ⟨k + 1, by omega, by go_num, HT2.out, HBQ.out, HXQ.out⟩
              case measure => simp [intOf]; omega
            · have HRR : Hid (res = false) := HSEL.out.trans (HSN.out (HHA.out.trans (decide_eq_false hl)))
              have hne : ((od.length : Int) != (W.length : Int)) = true := by simpa using fun h => hl (by omega)
              clear HHA hl HSC HSN HSEL HRO HK3 HB HH HT
              go_wp2
              go_ret
              exact ⟨by rw [HRR.out]; rfl, HBQ.out⟩
      · obtain rfl : k = oss.length := by omega
        have HRR : Hid (res = true) := HSEL.out.trans HT.out
        clear HSEL HT HL9 HON HOL HLO HLN HWL HX
        go_wp2
        go_ret
        exact ⟨by rw [HRR.out]; rfl, HK.out.1⟩
  · have HSEL := Lib.hid (sel_len m xss oss hm)
    have hne : ((oss.length : Int) != m) = true := by simpa using hm
    clear HL9 HQ HWL hr hr0 hs h4 hq hw
    generalize selB m xss oss = res at *
    go_enter Try.func15, Try.ntmps15
    go_wp2
    go_ret
    exact ⟨by rw [HSEL.out]; rfl, HX.out.1⟩
section
variable (A B : Option Addr) (c d : Nat) (m : Int) (xss : List (List Pr)) (oss : List (List Int)) (w : World) (hr : RowX pc w A xss) (hq : RowSS w B (oss.map ic)) (hn : xss.length ≤ 10000000 ∧ (lensX xss).sum ≤ 10000000) (hm : oss.length ≤ 10000000) (hw : ∀ xs ∈ oss, xs.length ≤ 10000000)
include hr hq hn hm hw
omit hr hq hn hm hw in
theorem selR_no {m : Int} {xss : List (List Pr)} (oss : List (List Int)) (h : jshB m xss = false) : selR m xss oss = (false, false) := by unfold selR; rw [h]; rfl
omit hr hq hn hm hw in
theorem selR_yes {m : Int} {xss : List (List Pr)} (oss : List (List Int)) (h : jshB m xss = true) : selR m xss oss = (selB m xss oss, true) := by unfold selR; rw [h]; rfl
set_option maxRecDepth 100000 in
set_option maxHeartbeats 4000000 in
theorem spec_IsSelection : Calls Try.prog 6 #[.agg #[.int .i64 m, .slice A xss.length c], .slice B oss.length d] w (RetBB w (selR m xss oss)) := by
  have hb0 := (Below.refl w.heap.size w).alloc (Nat.le_refl _) (.cells #[.int .i64 m, .slice A xss.length c] 32)
  have hx := BlockIs.new w 32 #[.int .i64 m, .slice A xss.length c]
  have hr0 := hr.below hb0
  have HG := Lib.hid (l9Good_any m A c xss.length xss _ rfl hr0 hn)
  have H0 := Lib.hid (And.intro hx (And.intro hb0 hr0))
  have HQ0 := Lib.hid hq
  clear hb0 hx hr0
  cases hj : jshB m xss
  · rw [hj] at HG
    have HR := Lib.hid (selR_no oss hj)
    clear hj hr hq hw
    go_enter Try.func6, Try.ntmps6
    go_wp2_with fail
    refine HG.out.mono ?_
    rintro e w1 ⟨rfl, hb1⟩
    have HB := Lib.hid (H0.out.2.1.trans (hb1.mono H0.out.2.1.size))
    clear hb1
    go_wp2
    go_ret2
    exact ⟨by rw [HR.out]; rfl, HB.out⟩
  · rw [hj] at HG
    obtain ⟨_, h4, _, h12⟩ := jsh_out hj
    have HR := Lib.hid (selR_yes oss hj)
    have HS := Lib.hid (fun W (hb : Below w.heap.size w W) => l9Selects_any m A B c d xss oss W (hr.below hb) (hq.below hb) h12 h4 hm hw)
    clear hj hr hq hw h4 h12 hn
    generalize selB m xss oss = res at *
    go_enter Try.func6, Try.ntmps6
    go_wp2_with fail
    refine HG.out.mono ?_
    rintro e w1 ⟨rfl, hb1⟩
    have HB := Lib.hid (H0.out.2.1.trans (hb1.mono H0.out.2.1.size))
    have HX1 := Lib.hid (H0.out.1.below hb1)
    have d0 := HX1.out.cell 0
    have d1 := HX1.out.cell 1
    simp only [List.getElem?_toArray, List.getElem?_cons_zero, List.getElem?_cons_succ] at d0 d1
    clear hb1 HG
    go_wp2_with fail
    refine (HS.out _ HB.out).mono ?_
    rintro e w2 ⟨rfl, hb2⟩
    have HB2 := Lib.hid (HB.out.trans (hb2.mono HB.out.size))
    clear hb2 d0 d1 HS
    go_wp2
    go_ret2
    exact ⟨by rw [HR.out]; rfl, HB2.out⟩
end
end Go.Proofs.Yteidhjmnononaaa
