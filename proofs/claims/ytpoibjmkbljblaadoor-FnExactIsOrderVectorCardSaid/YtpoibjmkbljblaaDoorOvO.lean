/- IsOrderVector: the program's. -/
import Derived.Test.YtpoibjmkbljblaaDoorKx1
namespace Go.Proofs.YtpoibjmkbljblaaDoor
set_option linter.unusedSimpArgs false
set_option linter.unusedVariables false
set_option linter.unusedSectionVars false
open Go.RowKit
theorem equalI_any (B C : Option Addr) (d b : Nat) (xs ys : List Int) (w : World) (hq : Row w B (ic xs)) (he : Row w C (ic ys)) (hx : xs.length ≤ 10000000) (hy : ys.length ≤ 10000000) :
    Calls Tryd.prog 112 #[.slice B xs.length d, .slice C ys.length b] w fun e w' => e = .returned (.bool (decide (xs = ys))) ∧ ∃ m, w' = w.drewN m := by
  by_cases hl : xs.length = ys.length
  · have hln : ((xs.length : Int) != (ys.length : Int)) = false := by rw [hl]; simp
    have HL := Lib.hid hl
    clear hl
    go_enter Tryd.func112, Tryd.ntmps112
    go_wp2
    go_loopw [13] (fun iv wr => ∃ k m : Nat, k ≤ xs.length ∧ iv = .int .i64 (k : Int) ∧ Hid (∀ i (h : i < xs.length) (h2 : i < ys.length), i < k → xs[i] = ys[i]) ∧ wr = w.drewN m) (fun iv _ => xs.length - (intOf iv).toNat)
    case atStart => exact ⟨0, 0, Nat.zero_le _, rfl, fun _ _ _ h => absurd h (by omega), rfl⟩
    case round =>
      obtain ⟨k, m, hk, rfl, HA, rfl⟩ := hrel
      by_cases hlt : k < xs.length
      · have hk0 : (0 : Int) ≤ k := by omega
        have hk1 : (k : Int) < xs.length := by omega
        have hlt2 : k < ys.length := by have := HL.out; omega
        have hk2 : (k : Int) < ys.length := by omega
        obtain ⟨bd, rfl, hcx⟩ := hq.int hlt
        obtain ⟨cd, rfl, hcy⟩ := he.int hlt2
        have HS : Hid (xs[k] = ys[k] → ∀ i (h : i < xs.length) (h2 : i < ys.length), i < k + 1 → xs[i] = ys[i]) := fun h0 i h h2 hi => by
          by_cases e : i = k
          · subst e; exact h0
          · exact HA.out i h h2 (by omega)
        have HN : Hid (xs[k] ≠ ys[k] → decide (xs = ys) = false) := fun h0 => decide_eq_false fun e => h0 (by subst e; rfl)
        generalize xs[k] = x at *
        generalize ys[k] = y at *
        by_cases hxy : x = y
        · have hne : (x != y) = false := by rw [hxy]; simp
          have HS2 := Lib.hid (HS.out hxy)
          clear HS HN hxy
          go_wp2
          go_quiet (fail)
          go_wp2
          go_roundw
          case rel => exact ⟨k + 1, _, by omega, by go_num, HS2.out, by first | rfl | exact World.drewN_drewN _ _ _⟩
          case measure => simp [intOf]; omega
        · have hne : (x != y) = true := by simpa using hxy
          have HN2 := Lib.hid (HN.out hxy)
          clear HS HN hxy
          go_wp2
          go_quiet (fail)
          go_wp2
          go_ret
          exact ⟨by rw [HN2.out]; rfl, _, by first | rfl | exact World.drewN_drewN _ _ _⟩
      · obtain rfl : k = xs.length := by omega
        have HF : Hid (decide (xs = ys) = true) := decide_eq_true (List.ext_getElem HL.out fun i h h2 => HA.out i h h2 h)
        go_wp2
        go_ret
        exact ⟨by rw [HF.out]; rfl, m, rfl⟩
  · have hln : ((xs.length : Int) != (ys.length : Int)) = true := by simp; omega
    have HF : Hid (decide (xs = ys) = false) := decide_eq_false fun e => hl (by rw [e])
    clear hl
    go_enter Tryd.func112, Tryd.ntmps112
    go_wp2
    go_ret
    exact ⟨by rw [HF.out]; rfl, 0, rfl⟩
section
variable (A C : Option Addr) (c b : Nat) (js : List J) (en : List Int) (w : World) (hr : Row w A (jc js)) (he : Row w C (ic en)) (hg : goodL js = true) (hv : vecB js.length en = true) (hT : TzTab w)
include hr he hg hv hT
set_option maxRecDepth 100000 in
set_option maxHeartbeats 4000000 in
theorem isOfOrder_any : Calls Tryd.prog 66 #[.agg #[.slice A js.length c, .slice C en.length b]] w fun e w' => e = .returned (.bool (decide (endsL js (eoL en) = en))) ∧ Below w.heap.size w w' := by
  obtain ⟨h8, _⟩ := good_out hg
  have hl := (vec_out hv).1
  have hve : vecB en.length en = true := by rw [hl]; exact hv
  have hpm : (eoL en).Perm (List.range js.length) := by have := eoL_perm en; rwa [hl] at this
  have HOR : Hid (∀ W, Below w.heap.size w W → Calls Tryd.prog 106 #[.agg #[.slice A js.length c, .slice C en.length b]] W fun e w' => ∃ v, e = .returned v ∧ w'.ownsRow W.heap.size 3 1 v (eoL en).length (ic (natI (eoL en))) ∧ Below W.heap.size W w') := fun W h => by
    have h1 := orderV_any A C c b en W (by omega) (he.below h) hve (hT.below h)
    rw [eoL_len, ← hl]
    exact h1
  have HEN : Hid (∀ (B : Option Addr) (d : Nat) W, Below w.heap.size w W → Row W B (ic (natI (eoL en))) → Calls Tryd.prog 113 #[.slice A js.length c, .slice B (eoL en).length d] W fun e w' => ∃ g, e = .returned (.slice (some ⟨g, 0, none⟩) js.length js.length) ∧ BlockIs w' g 3 (ic (endsL js (eoL en))).toArray ∧ Below W.heap.size W w') := fun B d W hb hq =>
    (endsIn_any A B c d js (eoL en) W (hr.below hb) hq hg hpm).mono fun _ _ ⟨g, h1, _, h3, h4⟩ => ⟨g, h1, h3, h4⟩
  have hEL := endsL_len js (eoL en)
  have HSM := Lib.hid (fun (g : Nat) W (hb : Below w.heap.size w W) (hB : BlockIs W g 3 (ic (endsL js (eoL en))).toArray) => by
    have h := equalI_any (some ⟨g, 0, none⟩) C js.length b (endsL js (eoL en)) en W (row_blkS hB) (he.below hb) (by omega) (by omega)
    rw [hEL] at h
    exact h)
  have hb0 := (Below.refl w.heap.size w).alloc (Nat.le_refl _) (.cells #[.slice A js.length c, .slice C en.length b] 70)
  have hB0 := BlockIs.new w 70 #[.slice A js.length c, .slice C en.length b]
  have q0 := hB0.drew.cell 0
  have q1 := hB0.drew.cell 1
  simp only [List.getElem?_toArray, List.getElem?_cons_zero, List.getElem?_cons_succ] at q0 q1
  have H0 := Lib.hid (And.intro hb0.drew hB0.drew)
  clear hr he hg hv hT hl hve hpm hEL hb0 hB0
  generalize eoL en = p at *
  generalize endsL js p = es at *
  go_enter Tryd.func66, Tryd.ntmps66
  go_wp2
  go_region_with (first
    | (go_at_call 106; refine (HOR.out _ H0.out.1).mono ?_; rintro e w1 ⟨v, rfl, hown, hb1⟩; obtain ⟨B, d, rfl, _, hrow⟩ := own_slice hown; have H1 := Lib.hid (And.intro (H0.out.1.trans (hb1.mono H0.out.1.size)) (H0.out.2.below hb1)); have HC1 := Lib.hid (HEN.out B d w1 H1.out.1 hrow); have r0 := H1.out.2.cell 0; have r1 := H1.out.2.cell 1; simp only [List.getElem?_toArray, List.getElem?_cons_zero, List.getElem?_cons_succ] at r0 r1; clear hown hb1 hrow)
    | (go_at_call 113; refine HC1.out.mono ?_; rintro e w2 ⟨g, rfl, hBg, hb2⟩; have H2 := Lib.hid (And.intro (H1.out.1.trans (hb2.mono H1.out.1.size)) (H1.out.2.below hb2)); have HC2 := Lib.hid (HSM.out g w2 H2.out.1 hBg); have u0 := H2.out.2.cell 0; have u1 := H2.out.2.cell 1; simp only [List.getElem?_toArray, List.getElem?_cons_zero, List.getElem?_cons_succ] at u0 u1; clear hBg hb2)
    | (go_at_call 112; refine HC2.out.mono ?_; rintro e _ ⟨rfl, m, rfl⟩))
  all_goals
    go_wp2
    go_ret
    exact ⟨rfl, below_drewN H2.out.1 _⟩
end
section
variable (A C : Option Addr) (c b : Nat) (js : List J) (en : List Int) (w : World) (hr : Row w A (jc js)) (he : Row w C (ic en)) (hn : js.length ≤ 10000000) (hel : en.length ≤ 10000000) (hT : TzTab w)
include hr he hn hel hT
set_option maxRecDepth 100000 in
set_option maxHeartbeats 2000000 in
theorem impl_IsOrderVector : Calls Tryd.prog 30 #[.slice A js.length c, .slice C en.length b] w (RetBB w (ovR js en)) := by
  have HR : Hid (ovR js en = if plainL js && vecB js.length en then (decide (endsL js (eoL en) = en), true) else (false, false)) := rfl
  have HT := Lib.hid hT
  have HRJ := Lib.hid hr
  have HE := Lib.hid he
  have HEV := Lib.hid (endVectorOf_any A C c b js en w hr he hn hel)
  clear hT hr he
  go_enter Tryd.func30, Tryd.ntmps30
  go_wp2_with fail
  refine HEV.out.mono ?_
  rintro e1 w1 ⟨hb1, ⟨hp, hv, rfl⟩ | ⟨hp, rfl⟩⟩
  · have HB2 := Lib.hid (And.intro (hb1.alloc hb1.size (.cells #[.slice A js.length c, .slice C en.length b] 70)) (BlockIs.new w1 70 #[.slice A js.length c, .slice C en.length b]))
    have q0 := HB2.out.2.cell 0
    have q1 := HB2.out.2.cell 1
    simp only [List.getElem?_toArray, List.getElem?_cons_zero, List.getElem?_cons_succ] at q0 q1
    have HSS := Lib.hid (isOfOrder_any A C c b js en _ (HRJ.out.below HB2.out.1) (HE.out.below HB2.out.1) (plain_good hp) hv (HT.out.below HB2.out.1))
    rw [hp, hv] at HR
    clear hv hp HEV
    generalize decide (endsL js (eoL en) = en) = res at *
    go_wp2_with fail
    refine HSS.out.mono ?_
    rintro e w2 ⟨rfl, hb2⟩
    have HB3 := Lib.hid (HB2.out.1.trans (hb2.mono HB2.out.1.size))
    clear hb2 HSS q0 q1
    go_wp2
    go_ret2
    exact ⟨by rw [HR.out]; rfl, HB3.out⟩
  · rw [hp] at HR
    have HB2 := Lib.hid (hb1.alloc hb1.size (.cells #[.slice none 0 0, .slice none 0 0] 70))
    clear HEV
    go_wp2
    go_ret2
    exact ⟨by rw [HR.out]; rfl, HB2.out⟩
end
end Go.Proofs.YtpoibjmkbljblaaDoor
