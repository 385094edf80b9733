/- IsJobShop: the model's whole, and the program's. -/
import Derived.Test.YteidhjmnononaaaJwS
namespace Go.Proofs.Yteidhjmnononaaa
set_option linter.unusedSimpArgs false
set_option linter.unusedVariables false
open Go.RowKit
set_option maxRecDepth 100000 in
set_option maxHeartbeats 2000000 in
theorem l9Good_any (m : Int) (A : Option Addr) (c n : Nat) (xss : List (List Pr)) (w : World) (hl : n = xss.length) (hr : RowX pc w A xss) (hn : xss.length ≤ 10000000 ∧ (lensX xss).sum ≤ 10000000) :
    Calls Try.prog 14 #[.agg #[.int .i64 m, .slice A n c]] w fun e w' => e = .returned (.bool (jshB m xss)) ∧ Below w.heap.size w w' := by
  subst hl
  have hb0 := (Below.refl w.heap.size w).alloc (Nat.le_refl _) (.cells #[.int .i64 m, .slice A xss.length c] 32)
  have hx := BlockIs.new w 32 #[.int .i64 m, .slice A xss.length c]
  have H0 := Lib.hid (And.intro hx hb0)
  have HR := Lib.hid (hr.below hb0)
  have HLN := Lib.hid (fun k (hk : k < xss.length) => by have h := sum_get_le (lensX xss) k (by rw [lensX_len]; exact hk); rw [lensX_get xss k hk] at h; exact Nat.le_trans h hn.2)
  have HCO := Lib.hid (fun W (hb : Below (w.alloc (.cells #[.int .i64 m, .slice A xss.length c] 32)).heap.size (w.alloc (.cells #[.int .i64 m, .slice A xss.length c] 32)) W) => l9Count_any m A c xss.length xss W rfl ((hr.below hb0).below hb) hn)
  have hsz1 : (w.alloc (.cells #[.int .i64 m, .slice A xss.length c] 32)).heap.size = w.heap.size + 1 := by simp
  have hI := fun W => l1In_any m 1 4 W
  have hsum := hn.2
  clear hb0 hx hr
  cases h1 : inB m 1 4
  · rw [h1] at hI
    have HV := Lib.hid (jsh_1 (m := m) (xss := xss) h1)
    have HI := Lib.hid hI
    have d0 := H0.out.1.cell 0
    have d1 := H0.out.1.cell 1
    simp only [List.getElem?_toArray, List.getElem?_cons_zero, List.getElem?_cons_succ] at d0 d1
    clear hI h1
    go_enter Try.func14, Try.ntmps14
    go_wp2_with fail
    refine (HI.out _).mono ?_
    rintro e _ ⟨rfl, rfl⟩
    go_wp2
    go_ret
    exact ⟨by rw [HV.out]; rfl, H0.out.2⟩
  · rw [h1] at hI
    have HI := Lib.hid hI
    have hm := inB_out h1
    by_cases h4 : xss.length ≤ 4
    · have HIN := Lib.hid h1
      have h4c : (xss.length : Int) ≤ 4 := by omega
      have H3 := Lib.hid (fun i hi h => @jsh_3 m xss i hi h)
      have H4 := Lib.hid (fun h => @jsh_4 m xss h1 h4 h)
      have hwm := IntWalk.i64_in (m - 1) (by omega)
      clear hI h1
      go_enter Try.func14, Try.ntmps14
      go_wp2_with fail
      refine (HI.out _).mono ?_
      rintro e _ ⟨rfl, rfl⟩
      go_wp2
      go_loopw [3] (fun iv wr => ∃ k : Nat, k ≤ xss.length ∧ iv = .int .i64 (k : Int) ∧ Hid (∀ i, i < k → ∀ hi : i < xss.length, routeB m xss[i] = true) ∧ Hid (Below (w.alloc (.cells #[.int .i64 m, .slice A xss.length c] 32)).heap.size (w.alloc (.cells #[.int .i64 m, .slice A xss.length c] 32)) wr)) (fun iv _ => xss.length - (intOf iv).toNat)
      case atStart => exact ⟨0, Nat.zero_le _, rfl, fun _ h => absurd h (by omega), Below.refl _ _⟩
      case round =>
        obtain ⟨k, hk, rfl, HM, HB⟩ := hrel
        have d0 := (H0.out.1.below HB.out).cell 0
        have d1 := (H0.out.1.below HB.out).cell 1
        simp only [List.getElem?_toArray, List.getElem?_cons_zero, List.getElem?_cons_succ] at d0 d1
        by_cases hlt : k < xss.length
        · have hk0 : (0 : Int) ≤ k := by omega
          have hk1 : (k : Int) < xss.length := by omega
          obtain ⟨ad, B, d, rfl, _, hc, hrow, _⟩ := (HR.out.below HB.out).at_ hlt
          have HRT : Hid (∀ W, Below wr.heap.size wr W → Calls Try.prog 24 #[.int .i64 m, .slice B xss[k].length d] W fun e w' => e = .returned (.bool (routeB m xss[k])) ∧ Below W.heap.size W w') := fun W hW => l9Route_any B d m xss[k] W hm (hrow.below hW) (HLN.out k hlt)
          have HM2 := Lib.hid (fun (h : routeB m xss[k] = true) => upto_step (P := fun i => ∀ hi : i < xss.length, routeB m xss[i] = true) HM.out (fun _ => h))
          have H3k := Lib.hid (H3.out k hlt)
          clear HM H3 H4 HLN hrow HR HCO
          generalize xss[k] = r at *
          cases hrt : routeB m r
          · rw [hrt] at HRT
            have HV := Lib.hid (H3k.out hrt)
            clear hrt HM2 H3k
            go_wp2
            go_region_with (go_at_call 24; refine (HRT.out _ (by first | exact Below.refl _ _ | exact (Below.refl _ _).drew | exact (Below.refl _ _).drewN _)).mono ?_; rintro e w1 ⟨rfl, hb1⟩)
            all_goals
              go_wp2
              go_ret
              exact ⟨by rw [HV.out]; rfl, H0.out.2.trans ((HB.out.trans ((⟨hb1.os, hb1.tape, hb1.output, hb1.size, hb1.block⟩ : Below wr.heap.size wr w1).mono HB.out.size)).mono H0.out.2.size)⟩
          · rw [hrt] at HRT
            have HM3 := Lib.hid (HM2.out hrt)
            clear hrt HM2 H3k
            go_wp2
            go_region_with (go_at_call 24; refine (HRT.out _ (by first | exact Below.refl _ _ | exact (Below.refl _ _).drew | exact (Below.refl _ _).drewN _)).mono ?_; rintro e w1 ⟨rfl, hb1⟩)
            all_goals
              go_wp2
              go_roundw
              case rel => exact ⟨k + 1, by omega, by go_num, HM3.out, HB.out.trans ((⟨hb1.os, hb1.tape, hb1.output, hb1.size, hb1.block⟩ : Below wr.heap.size wr w1).mono HB.out.size)⟩
              case measure => simp [intOf]; omega
        · obtain rfl : k = xss.length := by omega
          have HV := Lib.hid (H4.out (fun i hi => HM.out i hi hi))
          have HC := Lib.hid (HCO.out wr HB.out)
          clear H3 H4 HLN HCO HM
          go_wp2_with fail
          refine HC.out.mono ?_
          rintro e w1 ⟨rfl, hb1⟩
          have HBF := Lib.hid (H0.out.2.trans ((HB.out.trans (hb1.mono HB.out.size)).mono H0.out.2.size))
          clear hb1 HC
          generalize (lensX xss).sum = s at *
          by_cases hs : s ≤ 12
          · rw [decide_eq_true hs] at HV
            go_wp2
            go_ret
            exact ⟨by rw [HV.out]; first | rfl | simp [results, go_sem]; omega, HBF.out⟩
          · rw [decide_eq_false hs] at HV
            go_wp2
            go_ret
            exact ⟨by rw [HV.out]; first | rfl | simp [results, go_sem]; omega, HBF.out⟩
    · have HV := Lib.hid (jsh_2 (m := m) h4)
      have h4c : ¬ (xss.length : Int) ≤ 4 := by omega
      have d0 := H0.out.1.cell 0
      have d1 := H0.out.1.cell 1
      simp only [List.getElem?_toArray, List.getElem?_cons_zero, List.getElem?_cons_succ] at d0 d1
      clear hI h1
      go_enter Try.func14, Try.ntmps14
      go_wp2_with fail
      refine (HI.out _).mono ?_
      rintro e _ ⟨rfl, rfl⟩
      go_wp2
      go_ret
      exact ⟨by rw [HV.out]; rfl, H0.out.2⟩
theorem isMachine_any (m x : Int) (A : Option Addr) (n c : Nat) (w : World) :
    Calls Try.prog 37 #[.agg #[.int .i64 m, .slice A n c], .int .i64 x] w fun e w' => e = .returned (.bool (inB x 0 (m - 1))) ∧ Below w.heap.size w w' := by
  have hb0 := (Below.refl w.heap.size w).alloc (Nat.le_refl _) (.cells #[.int .i64 m, .slice A n c] 32)
  have hx := BlockIs.new w 32 #[.int .i64 m, .slice A n c]
  have d0 := hx.cell 0
  have d1 := hx.cell 1
  simp only [List.getElem?_toArray, List.getElem?_cons_zero, List.getElem?_cons_succ] at d0 d1
  have HB := Lib.hid hb0
  clear hb0 hx
  by_cases h0 : 0 ≤ x
  · by_cases h1 : x < m
    · have HV := Lib.hid (inB_yes (x := x) (a := 0) (b := m - 1) h0 (by omega))
      go_enter Try.func37, Try.ntmps37
      go_wp2
      go_ret
      exact ⟨by rw [HV.out]; rfl, HB.out⟩
    · have HV := Lib.hid (inB_no (x := x) (a := 0) (b := m - 1) (by omega))
      go_enter Try.func37, Try.ntmps37
      go_wp2
      go_ret
      exact ⟨by rw [HV.out]; rfl, HB.out⟩
  · have HV := Lib.hid (inB_no (x := x) (a := 0) (b := m - 1) (by omega))
    go_enter Try.func37, Try.ntmps37
    go_wp2
    go_ret
    exact ⟨by rw [HV.out]; rfl, HB.out⟩
theorem sameMachine_any (g : Nat) (x1 x2 : Int) (y : Pr) (w : World) (hg : BlockIs w g 65 #[.int .i64 x1, .int .i64 x2]) :
    Calls Try.prog 39 #[.agg #[.int .i64 y.1, .int .i64 y.2], .pointer (some ⟨g, 0, none⟩)] w fun e w' => e = .returned (.bool (decide (y.1 = x1))) ∧ Below w.heap.size w w' := by
  have hb0 := (Below.refl w.heap.size w).alloc (Nat.le_refl _) (.cells #[.int .i64 y.1, .int .i64 y.2] 65)
  have hx := BlockIs.new w 65 #[.int .i64 y.1, .int .i64 y.2]
  have hg1 := hg.below hb0
  have d0 := hx.cell 0
  have e0 := hg1.cell 0
  simp only [List.getElem?_toArray, List.getElem?_cons_zero, List.getElem?_cons_succ] at d0 e0
  have HB := Lib.hid hb0
  obtain ⟨y1, y2⟩ := y
  clear hb0 hx hg hg1
  have HE : Hid (decide (y1 = x1) = (y1 == x1)) := by show _ = _; by_cases h : y1 = x1 <;> simp [h]
  go_enter Try.func39, Try.ntmps39
  go_wp2
  go_ret
  exact ⟨by show _ = Ending.returned (.bool (decide (y1 = x1))); rw [HE.out]; rfl, HB.out⟩
theorem ja_none {α : Type} {l : List α} (p : α → Bool) (h : ∀ i (hi : i < l.length), p l[i] = false) : l.any p = false := by
  rw [List.any_eq_false]
  intro x hx
  obtain ⟨i, hi, rfl⟩ := List.mem_iff_getElem.1 hx
  rw [h i hi]; simp
theorem ja_some {α : Type} {l : List α} (p : α → Bool) {x : α} (hx : x ∈ l) (h : p x = true) : l.any p = true := List.any_eq_true.2 ⟨x, hx, h⟩
def sameM (x1 : Int) (y : Pr) : Bool := decide (y.1 = x1)
theorem any_has (l : List Pr) (x1 : Int) : l.any (sameM x1) = hasI (machs l) x1 := by
  unfold hasI machs sameM
  rw [Bool.eq_iff_iff]
  simp
set_option maxRecDepth 100000 in
set_option maxHeartbeats 2000000 in
theorem indexOp_any (A : Option Addr) (c : Nat) (l : List Pr) (g : Nat) (x1 x2 : Int) (w : World) (hr : Row w A (pc l)) (hn : l.length ≤ 10000000) (hg : BlockIs w g 65 #[.int .i64 x1, .int .i64 x2]) :
    Calls Try.prog 45 #[.slice A l.length c, .func (.func 39) #[] #[.pointer (some ⟨g, 0, none⟩)]] w fun e w' => (∃ r : Int, e = .returned (.int .i64 r) ∧ (0 ≤ r ↔ l.any (sameM x1) = true)) ∧ Below w.heap.size w w' := by
  have HR := Lib.hid hr
  have HG := Lib.hid hg
  clear hr hg
  go_enter Try.func45, Try.ntmps45
  go_wp2
  go_loopw [8] (fun i wr => ∃ k : Nat, k ≤ l.length ∧ i = .int .i64 k ∧ Hid (∀ i, i < k → ∀ hi : i < l.length, sameM x1 l[i] = false) ∧ Hid (Below w.heap.size w wr)) (fun i _ => l.length - (intOf i).toNat)
  case atStart => exact ⟨0, Nat.zero_le _, rfl, fun _ h => absurd h (by omega), Below.refl _ _⟩
  case round =>
    obtain ⟨k, hk, rfl, hA, hb⟩ := hrel
    by_cases hlt : k < l.length
    · obtain ⟨a, hA', _, hc0, hc1⟩ := (HR.out.below hb.out).pair hlt
      subst hA'
      have hi : (0 : Int) ≤ k := by omega
      have hi' : (k : Int) < l.length := by omega
      have HST := Lib.hid (fun (h : sameM x1 l[k] = false) => upto_step (P := fun i => ∀ hi : i < l.length, sameM x1 l[i] = false) hA.out (fun _ => h))
      have HAB := Lib.hid (fun h => ja_some (sameM x1) (List.getElem_mem hlt) h)
      have hC := sameMachine_any g x1 x2 l[k] wr (HG.out.below hb.out)
      rw [show decide (l[k].1 = x1) = sameM x1 l[k] from rfl] at hC
      have HC := Lib.hid hC
      clear hA hC
      generalize l[k] = s at *
      cases ho : sameM x1 s
      · have HA := Lib.hid (HST.out ho)
        rw [ho] at HC
        clear ho
        go_wp2_with fail
        refine HC.out.mono ?_
        rintro e w2 ⟨rfl, hb2⟩
        have HB2 := Lib.hid (hb.out.trans (hb2.mono hb.out.size))
        clear hb2
        go_wp2
        go_roundw
        case rel => exact ⟨k + 1, by omega, by go_num, HA.out, HB2.out⟩
        case measure => simp [intOf]; omega
      · have HGo := Lib.hid (HAB.out ho)
        rw [ho] at HC
        clear ho
        go_wp2_with fail
        refine HC.out.mono ?_
        rintro e w2 ⟨rfl, hb2⟩
        have HB2 := Lib.hid (hb.out.trans (hb2.mono hb.out.size))
        clear hb2
        go_wp2
        go_ret
        exact ⟨⟨k, rfl, fun _ => HGo.out, fun _ => by omega⟩, HB2.out⟩
    · obtain rfl : k = l.length := by omega
      have HGo := Lib.hid (ja_none (sameM x1) (fun i hi => hA.out i hi hi))
      clear hA
      go_wp2
      go_ret
      exact ⟨⟨-1, rfl, fun h => by omega, fun h => by rw [HGo.out] at h; cases h⟩, hb.out⟩
theorem containsOp_any (A : Option Addr) (c : Nat) (l : List Pr) (g n : Nat) (x1 x2 : Int) (w : World) (hl : n = l.length) (hr : Row w A (pc l)) (hn : l.length ≤ 10000000) (hg : BlockIs w g 65 #[.int .i64 x1, .int .i64 x2]) :
    Calls Try.prog 38 #[.slice A n c, .func (.func 39) #[] #[.pointer (some ⟨g, 0, none⟩)]] w fun e w' => e = .returned (.bool (hasI (machs l) x1)) ∧ Below w.heap.size w w' := by
  subst hl
  have HI := Lib.hid (indexOp_any A c l g x1 x2 w hr hn hg)
  have HAH := Lib.hid (any_has l x1)
  clear hr hg
  go_enter Try.func38, Try.ntmps38
  go_wp2_with fail
  refine HI.out.mono ?_
  rintro e w1 ⟨⟨r, rfl, hr1⟩, hb⟩
  have H : Hid (decide (0 ≤ r) = hasI (machs l) x1) := by
    show _ = _
    rw [← HAH.out]
    by_cases h0 : 0 ≤ r
    · rw [decide_eq_true h0, hr1.1 h0]
    · rw [decide_eq_false h0]
      cases hc : l.any (sameM x1) with
      | false => rfl
      | true => exact absurd (hr1.2 hc) h0
  have HB := Lib.hid hb
  clear hr1 hb
  go_wp2
  go_ret
  exact ⟨by rw [← H.out]; rfl, HB.out⟩
end Go.Proofs.Yteidhjmnononaaa
