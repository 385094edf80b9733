/- IsSelection: the program's side. -/
import Derived.Test.YteidhjmnononaaaJwL
import Derived.Test.YteidhjmnononaaaSrv
import Derived.Test.YteidhjmnononaaaEqI
import Derived.Test.YteidhjmnononaaaRegP
namespace Go.Proofs.Yteidhjmnononaaa
set_option linter.unusedSimpArgs false
set_option linter.unusedVariables false
set_option linter.unusedSectionVars false
open Go.RowKit
theorem rep_getD8 (n j : Nat) (h : j < n) : (Array.replicate n false).getD j true = false := by simp [Array.getD, h]
structure Sx where
  g20 : Nat
  v21 : Value
  v24 : Value
set_option maxRecDepth 100000 in
set_option maxHeartbeats 4000000 in
theorem isSelection_any (m : Int) (A B : Option Addr) (c d : Nat) (xss : List (List Pr)) (oss : List (List Int)) (w : World) (hr : RowX pc w A xss) (hq : RowSS w B (oss.map ic)) (hs : (lensX xss).sum ≤ 12) (h4 : xss.length ≤ 4) (hn : oss.length ≤ 10000000) (hw : ∀ xs ∈ oss, xs.length ≤ 2000000) :
    Calls Try.prog 19 #[.agg #[.int .i64 m, .slice A xss.length c], .slice B oss.length d] w fun e w' => e = .returned (.bool (selB m xss oss)) ∧ Below w.heap.size w w' := by
  have hb0 := (Below.refl w.heap.size w).alloc (Nat.le_refl _) (.cells #[.int .i64 m, .slice A xss.length c] 32)
  have hx := BlockIs.new w 32 #[.int .i64 m, .slice A xss.length c]
  have hr0 := hr.below hb0
  have HL9 := Lib.hid (fun (k : Int) W (hb : Below w.heap.size w W) => opsOn_any m A c xss k W (hr.below hb) hs h4)
  have HQ := Lib.hid hq
  have HWL := Lib.hid hw
  have HX := Lib.hid (And.intro hb0 hx)
  have d0 := hx.cell 0
  have d1 := hx.cell 1
  simp only [List.getElem?_toArray, List.getElem?_cons_zero, List.getElem?_cons_succ] at d0 d1
  by_cases hm : (oss.length : Int) = m
  · have HSEL : Hid (selB m xss oss = selTo (opsJ xss) oss oss.length) := by show _ = _; unfold selB; rw [decide_eq_true hm, Bool.true_and]
    have HLO := Lib.hid (fun (q : Int) => onI_len (opsJ xss) q)
    have HLN : Hid ((opsJ xss).length ≤ 12) := by show _ ≤ _; rw [opsJ_len]; exact hs
    have HON : Hid (∀ q : Int, natI (onL (opsJ xss) q (opsJ xss).length) = onI (opsJ xss) q) := fun _ => rfl
    have HOL : Hid (∀ q : Int, (onL (opsJ xss) q (opsJ xss).length).length = (onI (opsJ xss) q).length) := fun q => by unfold onI; simp
    clear hb0 hx hr0 hr hs h4 hq hw
    generalize opsJ xss = l at *
    generalize selB m xss oss = res at *
    go_enter Try.func19, Try.ntmps19
    go_wp2
    clear d0 d1
    go_loopw [14] (fun iv wr => ∃ k : Nat, k ≤ oss.length ∧ iv = .int .i64 (k : Int) ∧ Hid (selTo l oss k = true) ∧ Hid (Below w.heap.size w wr ∧ BlockIs wr w.heap.size 32 #[.int .i64 m, .slice A xss.length c])) (fun iv _ => oss.length - (intOf iv).toNat)
    case atStart => exact ⟨0, Nat.zero_le _, rfl, rfl, HX.out⟩
    case round =>
      obtain ⟨k, hk, rfl, HT, HK⟩ := hrel
      by_cases hlt : k < oss.length
      · have hk0 : (0 : Int) ≤ k := by omega
        have hk1 : (k : Int) < oss.length := by omega
        have HSC := Lib.hid (selTo_succ l oss hlt)
        have HSN := Lib.hid (fun h => selTo_no l oss hlt h)
        have hlw := HLO.out (k : Int)
        have hll := HLN.out
        have hod := HWL.out _ (List.getElem_mem hlt)
        have HDEC := Lib.hid (@sel_dec (onI l (k : Int)) oss[k] (onI_asc l (k : Int)))
        have HON8 := Lib.hid (fun W hb => HL9.out (k : Int) W hb)
        obtain ⟨ad, Bk, dk, hB, hc, hrw⟩ := (HQ.out.below HK.out.1).at_ (k := k) (by simpa using hlt)
        simp only [List.getElem_map, ic_len] at hc hrw
        subst hB
        obtain ⟨W0, hW0⟩ : ∃ W0, W0 = wr := ⟨_, rfl⟩
        have HRO : Hid (∀ W, Below W0.heap.size W0 W → Row W Bk (ic oss[k])) := fun W hb => (hW0 ▸ hrw).below hb
        have HB0 : Hid (Below w.heap.size w W0) := hW0 ▸ HK.out.1
        have HXX : Hid (BlockIs W0 w.heap.size 32 #[.int .i64 m, .slice A xss.length c]) := hW0 ▸ HK.out.2
        have HON9 : Hid (∀ W, Below W0.heap.size W0 W → Calls Try.prog 33 #[.agg #[.int .i64 m, .slice A xss.length c], .int .i64 (k : Int)] W fun e w' => ∃ v, e = .returned v ∧ w'.ownsRow W.heap.size 3 1 v (onI l (k : Int)).length (ic (onI l (k : Int))) ∧ Below W.heap.size W w') := fun W hb => (HON8.out W (HB0.out.trans (hb.mono HB0.out.size))).mono fun e w' h => by
          obtain ⟨v, n, h1, h2, h3, h5⟩ := h
          rw [HON.out] at h3
          rw [HOL.out] at h2
          subst h2
          exact ⟨v, h1, h3, h5⟩
        clear HON HOL HLO HLN HWL HL9 HX HK HQ hrw HON8
        generalize onI l (k : Int) = W9 at *
        generalize oss[k] = od at *
        go_wp2
        rw [← hW0]
        clear hW0 hc
        refine wp_region_detP (γ := Sx) (by kernel_rfl) (fun x L W => Below W0.heap.size W0 W ∧ (L.getD 1 true = true → BlockIs W x.g20 40 #[.slice Bk od.length dk]) ∧ (L.getD 2 true = true → ∃ A2 c2, x.v21 = .slice A2 (od.mergeSort fun x y => decide (x ≤ y)).length c2 ∧ Row W A2 (ic (od.mergeSort fun x y => decide (x ≤ y)))) ∧ (L.getD 5 true = true → ∃ A2 c2, x.v24 = .slice A2 W9.length c2 ∧ Row W A2 (ic W9))) (fun x kk => (#[.slice Bk od.length dk, .func (.func 42) #[] #[.pointer (some ⟨x.g20, 0, none⟩)], x.v21, .agg #[.int .i64 m, .slice A xss.length c], .int .i64 (k : Int), x.v24, .bool (inK W9 od), .bool (!inK W9 od)] : Array Value).getD kk undef) ⟨0, undef, undef⟩ (by kernel_rfl) (by kernel_rfl) ?_ ?_ ?_
        · have hR : ∀ j, j < 8 → (Array.replicate 8 false).getD j true = false := fun j hj => rep_getD8 8 j hj
          exact ⟨(Below.refl _ _).drew, fun h => absurd (h.symm.trans (hR 1 (by decide))) (by decide), fun h => absurd (h.symm.trans (hR 2 (by decide))) (by decide), fun h => absurd (h.symm.trans (hR 5 (by decide))) (by decide)⟩
        · intro x L W hall hS
          have HB4 := Lib.hid (HB0.out.trans (hS.1.mono HB0.out.size))
          have HX4 := Lib.hid (HXX.out.below hS.1)
          clear hS hall HB0 HXX HRO HON9 HDEC
          simp only [putsL]
          simp only [List.getElem_toArray, List.getElem_cons_zero, List.getElem_cons_succ, Act.put, Array.getD_eq_getD_getElem?, List.getElem?_toArray, List.getElem?_cons_zero, List.getElem?_cons_succ, Option.getD_some, List.setIfInBounds_toArray, List.set_cons_zero, List.set_cons_succ, Nat.reduceAdd]
          by_cases hy : inK W9 od = true
          · have HT2 : Hid (selTo l oss (k + 1) = true) := HSC.out.trans (by rw [HT.out, hy]; rfl)
            rw [hy]
            clear HSC HSN HT hy
            go_wp2
            go_roundw
            case rel => exact ⟨k + 1, by omega, by go_num, HT2.out, HB4.out, HX4.out⟩
            case measure => simp [intOf]; omega
          · have hy' : inK W9 od = false := by simpa using hy
            have HRR : Hid (res = false) := HSEL.out.trans (HSN.out hy')
            rw [hy']
            clear HSC HSN HT HSEL hy hy'
            go_wp2
            go_ret
            exact ⟨by rw [HRR.out]; rfl, HB4.out⟩
        · intro x L ac W iq op hLs hop hLi hLd hLn ⟨hS0, hS1, hS2, hS5⟩ hlow hdep
          have hq : iq < 8 := (Array.getElem?_eq_some_iff.1 hop).1
          have K : iq ≠ 1 → iq ≠ 2 → iq ≠ 5 → Below W0.heap.size W0 W ∧ ((L.setIfInBounds iq true).getD 1 true = true → BlockIs W x.g20 40 #[.slice Bk od.length dk]) ∧ ((L.setIfInBounds iq true).getD 2 true = true → ∃ A2 c2, x.v21 = .slice A2 (od.mergeSort fun x y => decide (x ≤ y)).length c2 ∧ Row W A2 (ic (od.mergeSort fun x y => decide (x ≤ y)))) ∧ ((L.setIfInBounds iq true).getD 5 true = true → ∃ A2 c2, x.v24 = .slice A2 W9.length c2 ∧ Row W A2 (ic W9)) := fun h1 h2 h5 => by
            rw [listed_ne h1, listed_ne h2, listed_ne h5]
            exact ⟨hS0, hS1, hS2, hS5⟩
          have val_eq : ∀ (q : Nat) (y : Sx), (∀ j, j < 8 → j ≠ q → L.getD j true = true → (#[.slice Bk od.length dk, .func (.func 42) #[] #[.pointer (some ⟨y.g20, 0, none⟩)], y.v21, .agg #[.int .i64 m, .slice A xss.length c], .int .i64 (k : Int), y.v24, .bool (inK W9 od), .bool (!inK W9 od)] : Array Value).getD j undef = (#[.slice Bk od.length dk, .func (.func 42) #[] #[.pointer (some ⟨x.g20, 0, none⟩)], x.v21, .agg #[.int .i64 m, .slice A xss.length c], .int .i64 (k : Int), x.v24, .bool (inK W9 od), .bool (!inK W9 od)] : Array Value).getD j undef) → L.getD q true = false → ∀ j, L.getD j true = true → (#[.slice Bk od.length dk, .func (.func 42) #[] #[.pointer (some ⟨y.g20, 0, none⟩)], y.v21, .agg #[.int .i64 m, .slice A xss.length c], .int .i64 (k : Int), y.v24, .bool (inK W9 od), .bool (!inK W9 od)] : Array Value).getD j undef = (#[.slice Bk od.length dk, .func (.func 42) #[] #[.pointer (some ⟨x.g20, 0, none⟩)], x.v21, .agg #[.int .i64 m, .slice A xss.length c], .int .i64 (k : Int), x.v24, .bool (inK W9 od), .bool (!inK W9 od)] : Array Value).getD j undef := fun q y hag hi j hj => by
            by_cases h8 : j < 8
            · exact hag j h8 (fun e => by subst e; rw [hi] at hj; cases hj) hj
            · have h1 : 8 ≤ j := by omega
              rw [Array.getD_eq_getD_getElem?, Array.getD_eq_getD_getElem?, Array.getElem?_eq_none (by simpa using h1), Array.getElem?_eq_none (by simpa using h1)]
          rcases (by omega : iq = 0 ∨ iq = 1 ∨ iq = 2 ∨ iq = 3 ∨ iq = 4 ∨ iq = 5 ∨ iq = 6 ∨ iq = 7) with rfl | rfl | rfl | rfl | rfl | rfl | rfl | rfl
          · obtain rfl := Option.some.inj hop
            have e6 : ac.tmps[6]?.getD undef = .slice Bk od.length dk := (Array.getD_eq_getD_getElem? ..).symm.trans (hlow 6 (by kernel_rfl))
            exact ⟨wanted_free rfl, .inl ⟨x, W, fun _ _ => rfl, by simp [execOp, Act.eval, e6, go_sem], K (by decide) (by decide) (by decide)⟩⟩
          · obtain rfl := Option.some.inj hop
            have e19 : ac.tmps[19]?.getD undef = .slice Bk od.length dk := (Array.getD_eq_getD_getElem? ..).symm.trans (hdep 0 _ 19 (by kernel_rfl) rfl rfl)
            have hN2 := hLn 2 (by kernel_rfl)
            refine ⟨wanted_free rfl, .inr (.inl ⟨32, #[.slice Bk od.length dk], by simp [execOp, Act.eval, e19, go_sem], (values_any Bk od.length dk W).mono ?_⟩)⟩
            rintro e w2 ⟨rfl, rfl⟩
            have hb2 := (Below.refl W.heap.size W).alloc (Nat.le_refl _) (.cells #[.slice Bk od.length dk] 40)
            refine ⟨{ x with g20 := W.heap.size }, (val_eq 1 { x with g20 := W.heap.size } (fun j hj h1 hl => by rcases (by omega : j = 0 ∨ j = 2 ∨ j = 3 ∨ j = 4 ∨ j = 5 ∨ j = 6 ∨ j = 7) with rfl | rfl | rfl | rfl | rfl | rfl | rfl <;> rfl) hLi), rfl, ?_⟩
            dsimp only
            rw [listed_ne (j := 2) (by decide), listed_ne (j := 5) (by decide)]
            exact ⟨hS0.trans (hb2.mono hS0.size), (fun _ => BlockIs.new W _ _), (fun h => by rw [hN2] at h; cases h), (fun h => (hS5 h).elim fun a ha => ha.elim fun b hb => ⟨a, b, hb.1, hb.2.below hb2⟩)⟩
          · obtain rfl := Option.some.inj hop
            have e20 : ac.tmps[20]?.getD undef = .func (.func 42) #[] #[.pointer (some ⟨x.g20, 0, none⟩)] := (Array.getD_eq_getD_getElem? ..).symm.trans (hdep 1 _ 20 (by kernel_rfl) rfl rfl)
            have h1t := hLd 1 (by kernel_rfl)
            have hbx := hS1 h1t
            have hcc := sortedV_any x.g20 Bk dk od W hbx (HRO.out W hS0) hod
            refine ⟨wanted_free rfl, .inr (.inl ⟨31, #[.func (.func 42) #[] #[.pointer (some ⟨x.g20, 0, none⟩)]], by simp [execOp, Act.eval, e20, go_sem], hcc.mono ?_⟩)⟩
            rintro e w2 ⟨v, rfl, ho, hb2⟩
            obtain ⟨A2, c2, hv2, _, _⟩ := own_slice ho
            refine ⟨{ x with v21 := v }, (val_eq 2 { x with v21 := v } (fun j hj h1 hl => by rcases (by omega : j = 0 ∨ j = 1 ∨ j = 3 ∨ j = 4 ∨ j = 5 ∨ j = 6 ∨ j = 7) with rfl | rfl | rfl | rfl | rfl | rfl | rfl <;> rfl) hLi), rfl, ?_⟩
            dsimp only
            rw [listed_ne (j := 1) (by decide), listed_ne (j := 5) (by decide)]
            subst hv2
            exact ⟨hS0.trans (hb2.mono hS0.size), (fun h => (hS1 h).below hb2), (fun _ => ⟨A2, c2, by rw [List.length_mergeSort], Row.of_own ho⟩), (fun h => (hS5 h).elim fun a ha => ha.elim fun b hb => ⟨a, b, hb.1, hb.2.below hb2⟩)⟩
          · obtain rfl := Option.some.inj hop
            have e2 : ac.tmps[2]?.getD undef = .pointer (some ⟨w.heap.size, 0, none⟩) := (Array.getD_eq_getD_getElem? ..).symm.trans (hlow 2 (by kernel_rfl))
            have q0 := (HXX.out.below hS0).cell 0
            have q1 := (HXX.out.below hS0).cell 1
            simp only [List.getElem?_toArray, List.getElem?_cons_zero, List.getElem?_cons_succ] at q0 q1
            exact ⟨wanted_free rfl, .inl ⟨x, W, fun _ _ => rfl, by simp [execOp, Act.eval, e2, q0, q1, go_sem], K (by decide) (by decide) (by decide)⟩⟩
          · obtain rfl := Option.some.inj hop
            have e5 : ac.tmps[5]?.getD undef = .int .i64 (k : Int) := (Array.getD_eq_getD_getElem? ..).symm.trans (hlow 5 (by kernel_rfl))
            exact ⟨wanted_free rfl, .inl ⟨x, W, fun _ _ => rfl, by simp [execOp, Act.eval, e5, go_sem], K (by decide) (by decide) (by decide)⟩⟩
          · obtain rfl := Option.some.inj hop
            have e22 : ac.tmps[22]?.getD undef = .agg #[.int .i64 m, .slice A xss.length c] := (Array.getD_eq_getD_getElem? ..).symm.trans (hdep 3 _ 22 (by kernel_rfl) rfl rfl)
            have e23 : ac.tmps[23]?.getD undef = .int .i64 (k : Int) := (Array.getD_eq_getD_getElem? ..).symm.trans (hdep 4 _ 23 (by kernel_rfl) rfl rfl)
            have hcc := HON9.out W hS0
            refine ⟨wanted_free rfl, .inr (.inl ⟨33, #[.agg #[.int .i64 m, .slice A xss.length c], .int .i64 (k : Int)], by simp [execOp, Act.eval, e22, e23, go_sem], hcc.mono ?_⟩)⟩
            rintro e w2 ⟨v, rfl, ho, hb2⟩
            obtain ⟨A2, c2, hv2, _, _⟩ := own_slice ho
            refine ⟨{ x with v24 := v }, (val_eq 5 { x with v24 := v } (fun j hj h1 hl => by rcases (by omega : j = 0 ∨ j = 1 ∨ j = 2 ∨ j = 3 ∨ j = 4 ∨ j = 6 ∨ j = 7) with rfl | rfl | rfl | rfl | rfl | rfl | rfl <;> rfl) hLi), rfl, ?_⟩
            dsimp only
            rw [listed_ne (j := 1) (by decide), listed_ne (j := 2) (by decide)]
            subst hv2
            exact ⟨hS0.trans (hb2.mono hS0.size), (fun h => (hS1 h).below hb2), (fun h => (hS2 h).elim fun a ha => ha.elim fun b hb => ⟨a, b, hb.1, hb.2.below hb2⟩), (fun _ => ⟨A2, c2, rfl, Row.of_own ho⟩)⟩
          · obtain rfl := Option.some.inj hop
            have e21 : ac.tmps[21]?.getD undef = x.v21 := (Array.getD_eq_getD_getElem? ..).symm.trans (hdep 2 _ 21 (by kernel_rfl) rfl rfl)
            have e24 : ac.tmps[24]?.getD undef = x.v24 := (Array.getD_eq_getD_getElem? ..).symm.trans (hdep 5 _ 24 (by kernel_rfl) rfl rfl)
            obtain ⟨A2, c2, hv2, hr2⟩ := hS2 (hLd 2 (by kernel_rfl))
            obtain ⟨A5, c5, hv5, hr5⟩ := hS5 (hLd 5 (by kernel_rfl))
            rw [hv2] at e21
            rw [hv5] at e24
            have hcc := equalI_any A2 A5 c2 c5 (od.mergeSort fun x y => decide (x ≤ y)) W9 W hr2 hr5 (by rw [List.length_mergeSort]; omega) (by omega)
            rw [HDEC.out] at hcc
            refine ⟨wanted_free rfl, .inr (.inl ⟨30, #[.slice A2 (od.mergeSort fun x y => decide (x ≤ y)).length c2, .slice A5 W9.length c5], by simp [execOp, Act.eval, e21, e24, go_sem], hcc.mono ?_⟩)⟩
            rintro e w2 ⟨rfl, mm, rfl⟩
            have hb2 : Below W.heap.size W (W.drewN mm) := below_drewN (Below.refl _ _) mm
            refine ⟨x, fun _ _ => rfl, rfl, ?_⟩
            dsimp only
            rw [listed_ne (j := 1) (by decide), listed_ne (j := 2) (by decide), listed_ne (j := 5) (by decide)]
            exact ⟨hS0.trans (hb2.mono hS0.size), (fun h => (hS1 h).below hb2), (fun h => (hS2 h).elim fun a ha => ha.elim fun b hb => ⟨a, b, hb.1, hb.2.below hb2⟩), (fun h => (hS5 h).elim fun a ha => ha.elim fun b hb => ⟨a, b, hb.1, hb.2.below hb2⟩)⟩
          · obtain rfl := Option.some.inj hop
            have e25 : ac.tmps[25]?.getD undef = .bool (inK W9 od) := (Array.getD_eq_getD_getElem? ..).symm.trans (hdep 6 _ 25 (by kernel_rfl) rfl rfl)
            exact ⟨wanted_free rfl, .inl ⟨x, W, fun _ _ => rfl, by simp [execOp, Act.eval, e25, go_sem], K (by decide) (by decide) (by decide)⟩⟩
      · obtain rfl : k = oss.length := by omega
        have HRR : Hid (res = true) := HSEL.out.trans HT.out
        have hnl : ¬ ((oss.length : Int) < oss.length) := by omega
        clear HSEL HT HL9 HON HOL HLO HLN HWL HX
        go_wp2
        go_ret
        exact ⟨by rw [HRR.out]; rfl, HK.out.1⟩
  · have HSEL := Lib.hid (sel_len m xss oss hm)
    have hne : ((oss.length : Int) != m) = true := by simpa using hm
    clear HL9 HQ HWL hr hr0 hs h4 hq hw
    generalize selB m xss oss = res at *
    go_enter Try.func19, Try.ntmps19
    go_wp2
    go_ret
    exact ⟨by rw [HSEL.out]; rfl, HX.out.1⟩
section
variable (A B : Option Addr) (c d : Nat) (m : Int) (xss : List (List Pr)) (oss : List (List Int)) (w : World) (hr : RowX pc w A xss) (hq : RowSS w B (oss.map ic)) (hn : xss.length ≤ 10000000 ∧ (lensX xss).sum ≤ 10000000) (hm : oss.length ≤ 10000000) (hw : ∀ xs ∈ oss, xs.length ≤ 2000000)
include hr hq hn hm hw
set_option maxRecDepth 100000 in
set_option maxHeartbeats 4000000 in
theorem impl_IsSelection : Calls Try.prog 9 #[.agg #[.int .i64 m, .slice A xss.length c], .slice B oss.length d] w (RetBB w (selR m xss oss)) := by
  have hb0 := (Below.refl w.heap.size w).alloc (Nat.le_refl _) (.cells #[.int .i64 m, .slice A xss.length c] 32)
  have hx := BlockIs.new w 32 #[.int .i64 m, .slice A xss.length c]
  have hr0 := hr.below hb0
  have HG := Lib.hid (impl_IsJobShop A c m xss _ hr0 hn)
  have H0 := Lib.hid (And.intro hx (And.intro hb0 hr0))
  clear hb0 hx hr0
  cases hj : jshB m xss
  · rw [hj] at HG
    have HR := Lib.hid (selR_no oss hj)
    clear hj hr hq hw
    go_enter Try.func9, Try.ntmps9
    go_wp2_with fail
    refine HG.out.mono ?_
    rintro e w1 ⟨rfl, hb1⟩
    have HB := Lib.hid (H0.out.2.1.trans (hb1.mono H0.out.2.1.size))
    clear hb1
    go_wp2
    go_ret2
    exact ⟨by rw [HR.out]; rfl, HB.out⟩
  · rw [hj] at HG
    obtain ⟨_, h4, _, h12⟩ := jsh_out hj
    have HR := Lib.hid (selR_yes oss hj)
    have HS := Lib.hid (fun W (hb : Below w.heap.size w W) => isSelection_any m A B c d xss oss W (hr.below hb) (hq.below hb) h12 h4 hm hw)
    clear hj hr hq hw h4 h12 hn
    generalize selB m xss oss = res at *
    go_enter Try.func9, Try.ntmps9
    go_wp2_with fail
    refine HG.out.mono ?_
    rintro e w1 ⟨rfl, hb1⟩
    have HB := Lib.hid (H0.out.2.1.trans (hb1.mono H0.out.2.1.size))
    have HX1 := Lib.hid (H0.out.1.below hb1)
    have d0 := HX1.out.cell 0
    have d1 := HX1.out.cell 1
    simp only [List.getElem?_toArray, List.getElem?_cons_zero, List.getElem?_cons_succ] at d0 d1
    clear hb1 HG
    go_wp2_with fail
    refine (HS.out _ HB.out).mono ?_
    rintro e w2 ⟨rfl, hb2⟩
    have HB2 := Lib.hid (HB.out.trans (hb2.mono HB.out.size))
    clear hb2 d0 d1 HS
    go_wp2
    go_ret2
    exact ⟨by rw [HR.out]; rfl, HB2.out⟩
end
end Go.Proofs.Yteidhjmnononaaa
