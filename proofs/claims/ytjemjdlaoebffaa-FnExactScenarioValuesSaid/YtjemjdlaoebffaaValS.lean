/- The model's value of an order. -/
import Derived.Test.YtjemjdlaoebffaaRegInv
import Derived.Test.YtjemjdlaoebffaaBestP
import Derived.Test.YtjemjdlaoebffaaEndsO
import Derived.IntWalk
namespace Go.Proofs.Ytjemjdlaoebffaa
open Go.RowKit
theorem l2Objective_any (o : Int) (w : World) : Calls Try.prog 94 #[.int .i64 o] w fun e w' => e = .returned (.bool (isObj o)) ∧ w = w' := by
  go_enter Try.func94, Try.ntmps94
  go_wp2_with fail
  refine (l1In_any _ _ _ _).mono ?_
  rintro e w1 ⟨rfl, rfl⟩
  go_wp2
  go_ret
  exact ⟨rfl, rfl⟩
theorem l2Greatest_any (o : Int) (w : World) : Calls Try.prog 119 #[.int .i64 o] w fun e w' => e = .returned (.bool (isTop o)) ∧ w = w' := by
  have HT : Hid (isTop o = decide (o = 1 ∨ o = 4)) := rfl
  by_cases h1 : o = 1
  · subst h1
    go_enter Try.func119, Try.ntmps119
    go_wp2
    go_ret
    exact ⟨rfl, rfl⟩
  · by_cases h4 : o = 4
    · subst h4
      go_enter Try.func119, Try.ntmps119
      go_wp2
      go_ret
      exact ⟨rfl, rfl⟩
    · have HF : Hid (isTop o = false) := by show _ = _; rw [HT.out]; exact decide_eq_false (by omega)
      have b1 : (o == 1) = false := by simpa using h1
      have b4 : (o == 4) = false := by simpa using h4
      go_enter Try.func119, Try.ntmps119
      go_wp2
      go_ret
      exact ⟨by rw [HF.out]; rfl, rfl⟩
set_option maxRecDepth 100000 in
theorem l2Cost_any (j : J) (x o : Int) (w : World) (hj : okJ j = true) (h0 : 0 ≤ x) (h1 : x ≤ 1000) (ho : isObj o = true) (ht : isTop o = false) :
    Calls Try.prog 120 #[.agg #[.int .i64 j.t, .int .i64 j.w, .int .i64 j.r, .int .i64 j.d], .int .i64 x, .int .i64 o] w fun e w' => e = .returned (.int .i64 (costOf o j x)) ∧ Below w.heap.size w w' := by
  obtain ⟨_, _, w0, w1, _, _, d0, d1⟩ := okJ_out hj
  have ha : Below w.heap.size w (w.alloc (.cells #[.int .i64 j.t, .int .i64 j.w, .int .i64 j.r, .int .i64 j.d] 95)) := (Below.refl _ _).alloc (Nat.le_refl _) _
  have m1 := mul_bd (c := 1000) w0 w1 h0 h1
  have m2 := mul_bd (b := max (x - j.d) 0) (c := 1000) w0 w1 (by omega) (by omega)
  have HA := Lib.hid ha
  clear ha hj
  rcases obj_cases ho with rfl | rfl | rfl | rfl | rfl | rfl | rfl | rfl
  · cases ht
  · clear ho ht
    have HC := Lib.hid (costOf_2 j x)
    go_enter Try.func120, Try.ntmps120
    go_wp2_with fail
    refine (l1Most_any _ _ _).mono ?_
    rintro e w2 ⟨rfl, rfl⟩
    go_wp2
    go_ret
    exact ⟨by rw [HC.out]; rfl, HA.out⟩
  · clear ho ht
    have HC := Lib.hid (costOf_3 j x)
    go_enter Try.func120, Try.ntmps120
    go_wp2_with fail
    refine (l1Most_any _ _ _).mono ?_
    rintro e w2 ⟨rfl, rfl⟩
    go_wp2
    go_ret
    exact ⟨by rw [HC.out]; rfl, HA.out⟩
  · cases ht
  · clear ho ht
    have HC := Lib.hid (costOf_5 j x)
    go_enter Try.func120, Try.ntmps120
    go_wp2_with fail
    refine (l1Most_any _ _ _).mono ?_
    rintro e w2 ⟨rfl, rfl⟩
    go_wp2
    go_ret
    exact ⟨by rw [HC.out]; rfl, HA.out⟩
  · clear ho ht
    have HC := Lib.hid (costOf_6 j x)
    go_enter Try.func120, Try.ntmps120
    go_wp2_with fail
    refine (l1Most_any _ _ _).mono ?_
    rintro e w2 ⟨rfl, rfl⟩
    go_wp2
    go_ret
    exact ⟨by rw [HC.out]; rfl, HA.out⟩
  · clear ho ht m1 m2
    have HC := Lib.hid (costOf_7 j x)
    by_cases hz : max (x - j.d) 0 = 0
    · have hb : (max (x - j.d) 0 == 0) = true := by simpa using hz
      have HM : Hid (min (max (x - j.d) 0) 1 = 0) := by show _ = _; omega
      clear hz
      go_enter Try.func120, Try.ntmps120
      go_wp2_with fail
      refine (l1Most_any _ _ _).mono ?_
      rintro e w2 ⟨rfl, rfl⟩
      have HM0 := HM
      generalize hy : max (x - j.d) 0 = y at HM hb ⊢
      clear hy
      go_wp2
      go_ret
      exact ⟨by rw [HC.out, HM0.out]; rfl, HA.out⟩
    · have hb : (max (x - j.d) 0 == 0) = false := by simpa using hz
      have HM : Hid (min (max (x - j.d) 0) 1 = 1) := by show _ = _; omega
      clear hz
      go_enter Try.func120, Try.ntmps120
      go_wp2_with fail
      refine (l1Most_any _ _ _).mono ?_
      rintro e w2 ⟨rfl, rfl⟩
      have HM0 := HM
      generalize hy : max (x - j.d) 0 = y at HM hb ⊢
      clear hy
      go_wp2
      go_ret
      exact ⟨by rw [HC.out, HM0.out]; rfl, HA.out⟩
  · clear ho ht m1 m2
    have HC := Lib.hid (costOf_8 j x)
    by_cases hz : max (x - j.d) 0 = 0
    · have hb : (max (x - j.d) 0 == 0) = true := by simpa using hz
      have HM : Hid (min (max (x - j.d) 0) 1 = 0) := by show _ = _; omega
      clear hz
      go_enter Try.func120, Try.ntmps120
      go_wp2_with fail
      refine (l1Most_any _ _ _).mono ?_
      rintro e w2 ⟨rfl, rfl⟩
      have HM0 := HM
      generalize hy : max (x - j.d) 0 = y at HM hb ⊢
      clear hy
      go_wp2
      go_ret
      exact ⟨by rw [HC.out, HM0.out, Int.mul_zero]; rfl, HA.out⟩
    · have hb : (max (x - j.d) 0 == 0) = false := by simpa using hz
      have HM : Hid (min (max (x - j.d) 0) 1 = 1) := by show _ = _; omega
      clear hz
      go_enter Try.func120, Try.ntmps120
      go_wp2_with fail
      refine (l1Most_any _ _ _).mono ?_
      rintro e w2 ⟨rfl, rfl⟩
      have HM0 := HM
      generalize hy : max (x - j.d) 0 = y at HM hb ⊢
      clear hy
      go_wp2
      go_ret
      exact ⟨by rw [HC.out, HM0.out, Int.mul_one]; rfl, HA.out⟩
set_option maxRecDepth 100000 in
set_option maxHeartbeats 4000000 in
theorem l2Of_sum (A E : Option Addr) (c d : Nat) (js : List J) (es : List Int) (o : Int) (w : World) (hr : Row w A (jc js)) (hq : Row w E (ic es)) (hg : goodL js = true) (hl : es.length = js.length) (hes : ∀ x ∈ es, 0 ≤ x ∧ x ≤ 1000) (ho : isObj o = true) (ht : isTop o = false) :
    Calls Try.prog 96 #[.slice A js.length c, .slice E js.length d, .int .i64 o] w fun e w' => e = .returned (.int .i64 (valOf o js es)) ∧ Below w.heap.size w w' := by
  obtain ⟨h8, hok⟩ := good_out hg
  have HL := Lib.hid hl
  clear hl
  go_enter Try.func96, Try.ntmps96
  go_wp2
  go_loopw [7, 8] (fun u i wr => ∃ (k : Nat) (v : Int), k ≤ js.length ∧ i = .int .i64 k ∧ u = .int .i64 v ∧ -500 ≤ v ∧ v ≤ 50000 * k ∧ (k = 0 → v = 0) ∧ Hid (valGo o (js.drop k) (es.drop k) k v = valOf o js es) ∧ Below w.heap.size w wr) (fun _ i _ => js.length - (intOf i).toNat)
  case atStart => exact ⟨0, 0, Nat.zero_le _, rfl, rfl, by omega, by omega, fun _ => rfl, rfl, Below.refl _ _⟩
  case round =>
    obtain ⟨k, v, hk, rfl, rfl, hv0, hv1, hvk, hV, hb⟩ := hrel
    by_cases hlt : k < js.length
    · obtain ⟨ad, hA, hbl, hc0, hc1, hc2, hc3⟩ := (hr.below hb).job hlt
      subst hA
      obtain ⟨ae, hE, hec⟩ := (hq.below hb).int (k := k) (by rw [HL.out]; exact hlt)
      have hae := lt_of_cell hec
      rw [add_block] at hae
      subst hE
      have hx := hes _ (List.getElem_mem (l := es) (n := k) (by rw [HL.out]; exact hlt))
      have hokj := hok _ (List.getElem_mem hlt)
      have HV2 : Hid (valGo o (js.drop (k + 1)) (es.drop (k + 1)) (k + 1) (extOf o k v (costOf o js[k] (es[k]'(by rw [HL.out]; exact hlt)))) = valOf o js es) := by
        show _ = _
        rw [← valGo_drop o js es k v hlt (by rw [HL.out]; exact hlt)]; exact hV.out
      have hcb := cost_bd ho hokj hx.1 hx.2
      have heb := ext_bd (o := o) (k := k) hv0 hv1 hcb.1 hcb.2.1 hcb.2.2
      have hk0 : (0 : Int) ≤ k := by omega
      have hk1 : (k : Int) < js.length := by omega
      have hev : extOf o k v (costOf o js[k] (es[k]'(by rw [HL.out]; exact hlt))) = v + costOf o js[k] (es[k]'(by rw [HL.out]; exact hlt)) := by
        unfold extOf
        by_cases h0 : k = 0
        · rw [if_pos h0, hvk h0]; omega
        · rw [if_neg h0, ht]; rfl
      rw [hev] at HV2 heb
      clear hev
      have hcost : ∀ w1 : World, Calls Try.prog 120 #[.agg #[.int .i64 js[k].t, .int .i64 js[k].w, .int .i64 js[k].r, .int .i64 js[k].d], .int .i64 (es[k]'(by rw [HL.out]; exact hlt)), .int .i64 o] w1 fun e w' => e = .returned (.int .i64 (costOf o js[k] (es[k]'(by rw [HL.out]; exact hlt)))) ∧ Below w1.heap.size w1 w' := fun w1 => l2Cost_any js[k] _ o w1 hokj hx.1 hx.2 ho ht
      have Hb := Lib.hid hb
      clear hV hb hr hq hvk hokj hx
      generalize costOf o js[k] (es[k]'(by rw [HL.out]; exact hlt)) = cc at *
      generalize es[k]'(by rw [HL.out]; exact hlt) = x at *
      generalize js[k] = j at *
      have hadb : (ad.add (k * 4)).block < wr.heap.size := by rw [add_block]; exact hbl
      go_wp2_with fail
      refine (l2Greatest_any o _).mono ?_
      rintro e _ ⟨rfl, rfl⟩
      rw [ht]
      go_wp2
      refine wp_region_det (by kernel_rfl) (fun w' => Below wr.heap.size wr w')
        (fun i => #[.int .i64 v, .slice (some ad) js.length c, .int .i64 (k : Int), .pointer (some (ad.add (k * 4))), .agg #[.int .i64 j.t, .int .i64 j.w, .int .i64 j.r, .int .i64 j.d], .slice (some ae) js.length d, .int .i64 (k : Int), .pointer (some (ae.add k)), .int .i64 x, .int .i64 o, .int .i64 cc, .int .i64 (v + cc), .int .i64 (v + cc)].getD i undef) (by kernel_rfl) (by kernel_rfl) ((Below.refl _ _).drew) ?_ ?_
      · intro tm w' hS hsz hlow hval
        have ht : tm = #[.slice (some ad) js.length c, .slice (some ae) js.length d, .int .i64 o, undef, undef, undef, .int .i64 0, .int .i64 (v + cc), .int .i64 (k : Int), u9, .int .i64 (k : Int), .slice (some ad) js.length c, .int .i64 (js.length : Int), .bool true, u14, u15, .int .i64 o, .bool false, .bool true, .int .i64 v, .slice (some ad) js.length c, .int .i64 (k : Int), .pointer (some (ad.add (k * 4))), .agg #[.int .i64 j.t, .int .i64 j.w, .int .i64 j.r, .int .i64 j.d], .slice (some ae) js.length d, .int .i64 (k : Int), .pointer (some (ae.add k)), .int .i64 x, .int .i64 o, .int .i64 cc, .int .i64 (v + cc), u31, u32, u33, u34, u35, u36, u37, u38, u39, u40, u41, u42, u43, u44, u45, u46, u47, u48, u49, u50, u51, undef] := by
          refine arr_of _ _ hsz fun t ht => ?_
          have ht' : t < 53 := ht
          rcases (by omega : t = 0 ∨ t = 1 ∨ t = 2 ∨ t = 3 ∨ t = 4 ∨ t = 5 ∨ t = 6 ∨ t = 7 ∨ t = 8 ∨ t = 9 ∨ t = 10 ∨ t = 11 ∨ t = 12 ∨ t = 13 ∨ t = 14 ∨ t = 15 ∨ t = 16 ∨ t = 17 ∨ t = 18 ∨ t = 19 ∨ t = 20 ∨ t = 21 ∨ t = 22 ∨ t = 23 ∨ t = 24 ∨ t = 25 ∨ t = 26 ∨ t = 27 ∨ t = 28 ∨ t = 29 ∨ t = 30 ∨ t = 31 ∨ t = 32 ∨ t = 33 ∨ t = 34 ∨ t = 35 ∨ t = 36 ∨ t = 37 ∨ t = 38 ∨ t = 39 ∨ t = 40 ∨ t = 41 ∨ t = 42 ∨ t = 43 ∨ t = 44 ∨ t = 45 ∨ t = 46 ∨ t = 47 ∨ t = 48 ∨ t = 49 ∨ t = 50 ∨ t = 51 ∨ t = 52) with rfl | rfl | rfl | rfl | rfl | rfl | rfl | rfl | rfl | rfl | rfl | rfl | rfl | rfl | rfl | rfl | rfl | rfl | rfl | rfl | rfl | rfl | rfl | rfl | rfl | rfl | rfl | rfl | rfl | rfl | rfl | rfl | rfl | rfl | rfl | rfl | rfl | rfl | rfl | rfl | rfl | rfl | rfl | rfl | rfl | rfl | rfl | rfl | rfl | rfl | rfl | rfl | rfl
          · exact hlow 0 (by kernel_rfl)
          · exact hlow 1 (by kernel_rfl)
          · exact hlow 2 (by kernel_rfl)
          · exact hlow 3 (by kernel_rfl)
          · exact hlow 4 (by kernel_rfl)
          · exact hlow 5 (by kernel_rfl)
          · exact hlow 6 (by kernel_rfl)
          · exact hval 12 _ 7 rfl rfl
          · exact hlow 8 (by kernel_rfl)
          · exact hlow 9 (by kernel_rfl)
          · exact hlow 10 (by kernel_rfl)
          · exact hlow 11 (by kernel_rfl)
          · exact hlow 12 (by kernel_rfl)
          · exact hlow 13 (by kernel_rfl)
          · exact hlow 14 (by kernel_rfl)
          · exact hlow 15 (by kernel_rfl)
          · exact hlow 16 (by kernel_rfl)
          · exact hlow 17 (by kernel_rfl)
          · exact hlow 18 (by kernel_rfl)
          · exact hval 0 _ 19 rfl rfl
          · exact hval 1 _ 20 rfl rfl
          · exact hval 2 _ 21 rfl rfl
          · exact hval 3 _ 22 rfl rfl
          · exact hval 4 _ 23 rfl rfl
          · exact hval 5 _ 24 rfl rfl
          · exact hval 6 _ 25 rfl rfl
          · exact hval 7 _ 26 rfl rfl
          · exact hval 8 _ 27 rfl rfl
          · exact hval 9 _ 28 rfl rfl
          · exact hval 10 _ 29 rfl rfl
          · exact hval 11 _ 30 rfl rfl
          · exact hlow 31 (by kernel_rfl)
          · exact hlow 32 (by kernel_rfl)
          · exact hlow 33 (by kernel_rfl)
          · exact hlow 34 (by kernel_rfl)
          · exact hlow 35 (by kernel_rfl)
          · exact hlow 36 (by kernel_rfl)
          · exact hlow 37 (by kernel_rfl)
          · exact hlow 38 (by kernel_rfl)
          · exact hlow 39 (by kernel_rfl)
          · exact hlow 40 (by kernel_rfl)
          · exact hlow 41 (by kernel_rfl)
          · exact hlow 42 (by kernel_rfl)
          · exact hlow 43 (by kernel_rfl)
          · exact hlow 44 (by kernel_rfl)
          · exact hlow 45 (by kernel_rfl)
          · exact hlow 46 (by kernel_rfl)
          · exact hlow 47 (by kernel_rfl)
          · exact hlow 48 (by kernel_rfl)
          · exact hlow 49 (by kernel_rfl)
          · exact hlow 50 (by kernel_rfl)
          · exact hlow 51 (by kernel_rfl)
          · exact hlow 52 (by kernel_rfl)
        subst ht
        clear hlow hval hsz
        go_wp2
        go_roundw
        case rel => exact ⟨k + 1, v + cc, by omega, by go_num, rfl, heb.1, heb.2, fun h => by omega, HV2, Hb.out.trans (hS.mono Hb.out.size)⟩
        case measure => simp [intOf]; omega
      · intro a w' i op ho hS0 hlow hdep hold
        have hi : i < 13 := (Array.getElem?_eq_some_iff.1 ho).1
        have l0 : a.tmps[0]?.getD undef = .slice (some ad) js.length c := by rw [← Array.getD_eq_getD_getElem?]; exact hlow 0 (by kernel_rfl)
        have l1 : a.tmps[1]?.getD undef = .slice (some ae) js.length d := by rw [← Array.getD_eq_getD_getElem?]; exact hlow 1 (by kernel_rfl)
        have l2 : a.tmps[2]?.getD undef = .int .i64 o := by rw [← Array.getD_eq_getD_getElem?]; exact hlow 2 (by kernel_rfl)
        have l8 : a.tmps[8]?.getD undef = .int .i64 (k : Int) := by rw [← Array.getD_eq_getD_getElem?]; exact hlow 8 (by kernel_rfl)
        have D : ∀ j oj d, edgeB _ i j = true → _ → _ → a.tmps[d]?.getD undef = _ := fun j oj d h1 h2 h3 => (Array.getD_eq_getD_getElem? ..).symm.trans (hdep j oj d h1 h2 h3)
        have g0 := (hS0.cell (p := ad.add (k * 4)) hadb).trans hc0
        have g1 := (hS0.cell (p := ⟨(ad.add (k * 4)).block, (ad.add (k * 4)).off + 1, none⟩) hadb).trans hc1
        have g2 := (hS0.cell (p := ⟨(ad.add (k * 4)).block, (ad.add (k * 4)).off + 2, none⟩) hadb).trans hc2
        have g3 := (hS0.cell (p := ⟨(ad.add (k * 4)).block, (ad.add (k * 4)).off + 3, none⟩) hadb).trans hc3
        have ge := (hS0.cell (p := ae.add k) (by rw [add_block]; exact hae)).trans hec
        rcases (by omega : i = 0 ∨ i = 1 ∨ i = 2 ∨ i = 3 ∨ i = 4 ∨ i = 5 ∨ i = 6 ∨ i = 7 ∨ i = 8 ∨ i = 9 ∨ i = 10 ∨ i = 11 ∨ i = 12) with rfl | rfl | rfl | rfl | rfl | rfl | rfl | rfl | rfl | rfl | rfl | rfl | rfl
        · obtain rfl := Option.some.inj ho
          have l7 : a.tmps[7]?.getD undef = .int .i64 v := (Array.getD_eq_getD_getElem? ..).symm.trans (hold 12 _ 7 (by kernel_rfl) rfl rfl)
          exact ⟨rfl, .inl ⟨w', by simp [execOp, Act.eval, l7, go_sem], hS0⟩⟩
        · obtain rfl := Option.some.inj ho
          exact ⟨rfl, .inl ⟨w', by simp [execOp, Act.eval, l0, go_sem], hS0⟩⟩
        · obtain rfl := Option.some.inj ho
          exact ⟨rfl, .inl ⟨w', by simp [execOp, Act.eval, l8, go_sem], hS0⟩⟩
        · obtain rfl := Option.some.inj ho
          have e20 : a.tmps[20]?.getD undef = .slice (some ad) js.length c := D 1 _ 20 (by kernel_rfl) rfl rfl
          have e21 : a.tmps[21]?.getD undef = .int .i64 (k : Int) := D 2 _ 21 (by kernel_rfl) rfl rfl
          exact ⟨rfl, .inl ⟨w', by simp [execOp, Act.eval, e20, e21, hk0, hk1, go_sem], hS0⟩⟩
        · obtain rfl := Option.some.inj ho
          have e22 : a.tmps[22]?.getD undef = .pointer (some (ad.add (k * 4))) := D 3 _ 22 (by kernel_rfl) rfl rfl
          exact ⟨rfl, .inl ⟨w', by simp [execOp, Act.eval, e22, g0, g1, g2, g3, go_sem], hS0⟩⟩
        · obtain rfl := Option.some.inj ho
          exact ⟨rfl, .inl ⟨w', by simp [execOp, Act.eval, l1, go_sem], hS0⟩⟩
        · obtain rfl := Option.some.inj ho
          exact ⟨rfl, .inl ⟨w', by simp [execOp, Act.eval, l8, go_sem], hS0⟩⟩
        · obtain rfl := Option.some.inj ho
          have e24 : a.tmps[24]?.getD undef = .slice (some ae) js.length d := D 5 _ 24 (by kernel_rfl) rfl rfl
          have e25 : a.tmps[25]?.getD undef = .int .i64 (k : Int) := D 6 _ 25 (by kernel_rfl) rfl rfl
          exact ⟨rfl, .inl ⟨w', by simp [execOp, Act.eval, e24, e25, hk0, hk1, go_sem], hS0⟩⟩
        · obtain rfl := Option.some.inj ho
          have e26 : a.tmps[26]?.getD undef = .pointer (some (ae.add k)) := D 7 _ 26 (by kernel_rfl) rfl rfl
          exact ⟨rfl, .inl ⟨w', by simp [execOp, Act.eval, e26, ge, go_sem], hS0⟩⟩
        · obtain rfl := Option.some.inj ho
          exact ⟨rfl, .inl ⟨w', by simp [execOp, Act.eval, l2, go_sem], hS0⟩⟩
        · obtain rfl := Option.some.inj ho
          have e23 : a.tmps[23]?.getD undef = .agg #[.int .i64 j.t, .int .i64 j.w, .int .i64 j.r, .int .i64 j.d] := D 4 _ 23 (by kernel_rfl) rfl rfl
          have e27 : a.tmps[27]?.getD undef = .int .i64 x := D 8 _ 27 (by kernel_rfl) rfl rfl
          have e28 : a.tmps[28]?.getD undef = .int .i64 o := D 9 _ 28 (by kernel_rfl) rfl rfl
          refine ⟨rfl, .inr ⟨120, #[.agg #[.int .i64 j.t, .int .i64 j.w, .int .i64 j.r, .int .i64 j.d], .int .i64 x, .int .i64 o], by simp [execOp, Act.eval, e23, e27, e28, go_sem], (hcost w').mono ?_⟩⟩
          rintro e w'' ⟨rfl, hb2⟩
          exact ⟨rfl, hS0.trans (hb2.mono hS0.size)⟩
        · obtain rfl := Option.some.inj ho
          have e19 : a.tmps[19]?.getD undef = .int .i64 v := D 0 _ 19 (by kernel_rfl) rfl rfl
          have e29 : a.tmps[29]?.getD undef = .int .i64 cc := D 10 _ 29 (by kernel_rfl) rfl rfl
          exact ⟨rfl, .inl ⟨w', by simp [execOp, Act.eval, e19, e29, go_sem]; exact IntWalk.i64_in _ (by omega), hS0⟩⟩
        · obtain rfl := Option.some.inj ho
          have e30 : a.tmps[30]?.getD undef = .int .i64 (v + cc) := D 11 _ 30 (by kernel_rfl) rfl rfl
          exact ⟨rfl, .inl ⟨w', by simp [execOp, Act.eval, e30, go_sem], hS0⟩⟩
    · obtain rfl : k = js.length := by omega
      have hV' := hV.out
      rw [valGo_end o js es js.length v (Nat.le_refl _)] at hV'
      have HV' := Lib.hid hV'
      clear hV hV'
      go_wp2
      go_ret
      exact ⟨by rw [← HV'.out]; rfl, hb⟩
set_option maxRecDepth 100000 in
set_option maxHeartbeats 4000000 in
theorem l2Of_top1 (A E : Option Addr) (c d : Nat) (js : List J) (es : List Int) (w : World) (hr : Row w A (jc js)) (hq : Row w E (ic es)) (hg : goodL js = true) (hl : es.length = js.length) (hes : ∀ x ∈ es, 0 ≤ x ∧ x ≤ 1000) :
    Calls Try.prog 96 #[.slice A js.length c, .slice E js.length d, .int .i64 1] w fun e w' => e = .returned (.int .i64 (valOf 1 js es)) ∧ Below w.heap.size w w' := by
  obtain ⟨h8, hok⟩ := good_out hg
  have HL := Lib.hid hl
  clear hl
  go_enter Try.func96, Try.ntmps96
  go_wp2
  go_loopw [7, 8] (fun u i wr => ∃ (k : Nat) (v : Int), k ≤ js.length ∧ i = .int .i64 k ∧ u = .int .i64 v ∧ -500 ≤ v ∧ v ≤ 50000 * k ∧ (k = 0 → v = 0) ∧ Hid (valGo 1 (js.drop k) (es.drop k) k v = valOf 1 js es) ∧ Below w.heap.size w wr) (fun _ i _ => js.length - (intOf i).toNat)
  case atStart => exact ⟨0, 0, Nat.zero_le _, rfl, rfl, by omega, by omega, fun _ => rfl, rfl, Below.refl _ _⟩
  case round =>
    obtain ⟨k, v, hk, rfl, rfl, hv0, hv1, hvk, hV, hb⟩ := hrel
    by_cases hlt : k < js.length
    · obtain ⟨ad, hA, hbl, hc0, hc1, hc2, hc3⟩ := (hr.below hb).job hlt
      subst hA
      obtain ⟨ae, hE, hec⟩ := (hq.below hb).int (k := k) (by rw [HL.out]; exact hlt)
      have hae := lt_of_cell hec
      rw [add_block] at hae
      subst hE
      have hx := hes _ (List.getElem_mem (l := es) (n := k) (by rw [HL.out]; exact hlt))
      have hokj := hok _ (List.getElem_mem hlt)
      have HV2 : Hid (valGo 1 (js.drop (k + 1)) (es.drop (k + 1)) (k + 1) (extOf 1 k v (costOf 1 js[k] (es[k]'(by rw [HL.out]; exact hlt)))) = valOf 1 js es) := by
        show _ = _
        rw [← valGo_drop 1 js es k v hlt (by rw [HL.out]; exact hlt)]; exact hV.out
      have hcb := cost_bd (show isObj 1 = true from rfl) hokj hx.1 hx.2
      have heb := ext_bd (o := 1) (k := k) hv0 hv1 hcb.1 hcb.2.1 hcb.2.2
      have hk0 : (0 : Int) ≤ k := by omega
      have hk1 : (k : Int) < js.length := by omega
      have HE : Hid (extOf 1 k v (costOf 1 js[k] (es[k]'(by rw [HL.out]; exact hlt))) = if k = 0 then costOf 1 js[k] (es[k]'(by rw [HL.out]; exact hlt)) else max v (costOf 1 js[k] (es[k]'(by rw [HL.out]; exact hlt)))) := rfl
      have HCO := Lib.hid (costOf_1 js[k] (es[k]'(by rw [HL.out]; exact hlt)))
      rw [HCO.out] at HE HV2 heb hcb
      obtain ⟨_, _, _, _, _, _, dd0, dd1⟩ := okJ_out hokj
      clear hV hr hq hvk hokj HCO
      generalize extOf 1 k v _ = ev at *
      generalize es[k]'(by rw [HL.out]; exact hlt) = x at *
      generalize js[k] = j at *
      obtain ⟨he0, he1⟩ := heb
      obtain ⟨hx0, hx1⟩ := hx
      obtain ⟨hq0, hq1, _⟩ := hcb
      by_cases hz : k = 0
      · have hev : x = ev := by rw [HE.out, if_pos hz]
        subst hev
        have hkz : ((k : Int) == 0) = true := by simp; omega
        have HZ := Lib.hid hz
        clear HE hz
        go_wp2_with fail
        refine (l2Greatest_any 1 _).mono ?_
        rintro e _ ⟨rfl, rfl⟩
        rw [show isTop 1 = true from rfl]
        go_wp2
        go_roundw
        case rel => exact ⟨k + 1, x, by omega, by go_num, rfl, by omega, by omega, fun h => by omega, HV2, hb⟩
        case measure => simp [intOf]; omega
      · have hev : ev = max v (x) := by rw [HE.out, if_neg hz]
        clear HE
        have hkz : ((k : Int) == 0) = false := by simp; omega
        by_cases hcmp : v < x
        · have hev2 : x = ev := by omega
          subst hev2
          clear hev
          go_wp2_with fail
          refine (l2Greatest_any 1 _).mono ?_
          rintro e _ ⟨rfl, rfl⟩
          rw [show isTop 1 = true from rfl]
          go_wp2
          go_roundw
          case rel => exact ⟨k + 1, x, by omega, by go_num, rfl, by omega, by omega, fun h => by omega, HV2, hb⟩
          case measure => simp [intOf]; omega
        · have hev2 : v = ev := by omega
          subst hev2
          clear hev
          go_wp2_with fail
          refine (l2Greatest_any 1 _).mono ?_
          rintro e _ ⟨rfl, rfl⟩
          rw [show isTop 1 = true from rfl]
          go_wp2
          go_roundw
          case rel => exact ⟨k + 1, v, by omega, by go_num, rfl, by omega, by omega, fun h => by omega, HV2, hb⟩
          case measure => simp [intOf]; omega
    · obtain rfl : k = js.length := by omega
      have hV' := hV.out
      rw [valGo_end 1 js es js.length v (Nat.le_refl _)] at hV'
      have HV' := Lib.hid hV'
      clear hV hV'
      go_wp2
      go_ret
      exact ⟨by rw [← HV'.out]; rfl, hb⟩
set_option maxRecDepth 100000 in
set_option maxHeartbeats 4000000 in
theorem l2Of_top4 (A E : Option Addr) (c d : Nat) (js : List J) (es : List Int) (w : World) (hr : Row w A (jc js)) (hq : Row w E (ic es)) (hg : goodL js = true) (hl : es.length = js.length) (hes : ∀ x ∈ es, 0 ≤ x ∧ x ≤ 1000) :
    Calls Try.prog 96 #[.slice A js.length c, .slice E js.length d, .int .i64 4] w fun e w' => e = .returned (.int .i64 (valOf 4 js es)) ∧ Below w.heap.size w w' := by
  obtain ⟨h8, hok⟩ := good_out hg
  have HL := Lib.hid hl
  clear hl
  go_enter Try.func96, Try.ntmps96
  go_wp2
  go_loopw [7, 8] (fun u i wr => ∃ (k : Nat) (v : Int), k ≤ js.length ∧ i = .int .i64 k ∧ u = .int .i64 v ∧ -500 ≤ v ∧ v ≤ 50000 * k ∧ (k = 0 → v = 0) ∧ Hid (valGo 4 (js.drop k) (es.drop k) k v = valOf 4 js es) ∧ Below w.heap.size w wr) (fun _ i _ => js.length - (intOf i).toNat)
  case atStart => exact ⟨0, 0, Nat.zero_le _, rfl, rfl, by omega, by omega, fun _ => rfl, rfl, Below.refl _ _⟩
  case round =>
    obtain ⟨k, v, hk, rfl, rfl, hv0, hv1, hvk, hV, hb⟩ := hrel
    by_cases hlt : k < js.length
    · obtain ⟨ad, hA, hbl, hc0, hc1, hc2, hc3⟩ := (hr.below hb).job hlt
      subst hA
      obtain ⟨ae, hE, hec⟩ := (hq.below hb).int (k := k) (by rw [HL.out]; exact hlt)
      have hae := lt_of_cell hec
      rw [add_block] at hae
      subst hE
      have hx := hes _ (List.getElem_mem (l := es) (n := k) (by rw [HL.out]; exact hlt))
      have hokj := hok _ (List.getElem_mem hlt)
      have HV2 : Hid (valGo 4 (js.drop (k + 1)) (es.drop (k + 1)) (k + 1) (extOf 4 k v (costOf 4 js[k] (es[k]'(by rw [HL.out]; exact hlt)))) = valOf 4 js es) := by
        show _ = _
        rw [← valGo_drop 4 js es k v hlt (by rw [HL.out]; exact hlt)]; exact hV.out
      have hcb := cost_bd (show isObj 4 = true from rfl) hokj hx.1 hx.2
      have heb := ext_bd (o := 4) (k := k) hv0 hv1 hcb.1 hcb.2.1 hcb.2.2
      have hk0 : (0 : Int) ≤ k := by omega
      have hk1 : (k : Int) < js.length := by omega
      have HE : Hid (extOf 4 k v (costOf 4 js[k] (es[k]'(by rw [HL.out]; exact hlt))) = if k = 0 then costOf 4 js[k] (es[k]'(by rw [HL.out]; exact hlt)) else max v (costOf 4 js[k] (es[k]'(by rw [HL.out]; exact hlt)))) := rfl
      have HCO := Lib.hid (costOf_4 js[k] (es[k]'(by rw [HL.out]; exact hlt)))
      rw [HCO.out] at HE HV2 heb hcb
      obtain ⟨_, _, _, _, _, _, dd0, dd1⟩ := okJ_out hokj
      clear hV hr hq hvk hokj HCO
      generalize extOf 4 k v _ = ev at *
      generalize es[k]'(by rw [HL.out]; exact hlt) = x at *
      generalize js[k] = j at *
      obtain ⟨he0, he1⟩ := heb
      obtain ⟨hx0, hx1⟩ := hx
      obtain ⟨hq0, hq1, _⟩ := hcb
      by_cases hz : k = 0
      · have hev : x - j.d = ev := by rw [HE.out, if_pos hz]
        subst hev
        have hkz : ((k : Int) == 0) = true := by simp; omega
        have HZ := Lib.hid hz
        clear HE hz
        go_wp2_with fail
        refine (l2Greatest_any 4 _).mono ?_
        rintro e _ ⟨rfl, rfl⟩
        rw [show isTop 4 = true from rfl]
        go_wp2
        go_roundw
        case rel => exact ⟨k + 1, x - j.d, by omega, by go_num, rfl, by omega, by omega, fun h => by omega, HV2, hb⟩
        case measure => simp [intOf]; omega
      · have hev : ev = max v (x - j.d) := by rw [HE.out, if_neg hz]
        clear HE
        have hkz : ((k : Int) == 0) = false := by simp; omega
        by_cases hcmp : v < x - j.d
        · have hev2 : x - j.d = ev := by omega
          subst hev2
          clear hev
          go_wp2_with fail
          refine (l2Greatest_any 4 _).mono ?_
          rintro e _ ⟨rfl, rfl⟩
          rw [show isTop 4 = true from rfl]
          go_wp2
          go_roundw
          case rel => exact ⟨k + 1, x - j.d, by omega, by go_num, rfl, by omega, by omega, fun h => by omega, HV2, hb⟩
          case measure => simp [intOf]; omega
        · have hev2 : v = ev := by omega
          subst hev2
          clear hev
          go_wp2_with fail
          refine (l2Greatest_any 4 _).mono ?_
          rintro e _ ⟨rfl, rfl⟩
          rw [show isTop 4 = true from rfl]
          go_wp2
          go_roundw
          case rel => exact ⟨k + 1, v, by omega, by go_num, rfl, by omega, by omega, fun h => by omega, HV2, hb⟩
          case measure => simp [intOf]; omega
    · obtain rfl : k = js.length := by omega
      have hV' := hV.out
      rw [valGo_end 4 js es js.length v (Nat.le_refl _)] at hV'
      have HV' := Lib.hid hV'
      clear hV hV'
      go_wp2
      go_ret
      exact ⟨by rw [← HV'.out]; rfl, hb⟩
theorem l2Of_any (A E : Option Addr) (c d : Nat) (js : List J) (es : List Int) (o : Int) (w : World) (hr : Row w A (jc js)) (hq : Row w E (ic es)) (hg : goodL js = true) (hl : es.length = js.length) (hes : ∀ x ∈ es, 0 ≤ x ∧ x ≤ 1000) (ho : isObj o = true) :
    Calls Try.prog 96 #[.slice A js.length c, .slice E js.length d, .int .i64 o] w fun e w' => e = .returned (.int .i64 (valOf o js es)) ∧ Below w.heap.size w w' := by
  rcases obj_cases ho with rfl | rfl | rfl | rfl | rfl | rfl | rfl | rfl
  · exact l2Of_top1 A E c d js es w hr hq hg hl hes
  · exact l2Of_sum A E c d js es 2 w hr hq hg hl hes ho rfl
  · exact l2Of_sum A E c d js es 3 w hr hq hg hl hes ho rfl
  · exact l2Of_top4 A E c d js es w hr hq hg hl hes
  · exact l2Of_sum A E c d js es 5 w hr hq hg hl hes ho rfl
  · exact l2Of_sum A E c d js es 6 w hr hq hg hl hes ho rfl
  · exact l2Of_sum A E c d js es 7 w hr hq hg hl hes ho rfl
  · exact l2Of_sum A E c d js es 8 w hr hq hg hl hes ho rfl
end Go.Proofs.Ytjemjdlaoebffaa
