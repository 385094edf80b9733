/- What an exchange gains: the model's and the program's. -/
import Derived.Test.YtekocnmcenmcnabValI
import Derived.Test.YtekocnmcenmcnabGainP
import Derived.Test.YtekocnmcenmcnabRegInvG
namespace Go.Proofs.Ytekocnmcenmcnab
open Go.RowKit
set_option maxRecDepth 100000 in
theorem l2Gain_any (A : Option Addr) (ad : Addr) (c d : Nat) (js : List J) (o : List Int) (i : Nat) (ob : Int) (w : World) (hr : Row w A (jc js)) (hq : Row w (some ad) (ic o)) (ht : twoB js o = true) (ho : isObj ob = true) (hi : i + 1 < o.length) (hm : o.length ≤ 100000) :
    Calls Try.prog 47 #[.slice A js.length c, .slice (some ad) o.length d, .int .i64 (i : Int), .int .i64 ob] w fun e w' => e = .returned (.int .i64 (gainI ob js o i)) ∧ Below w.heap.size w w' := by
  have b1 := valI_bd ho ht
  have b2 := valI_bd ho (two_swap ht hi)
  have HV : Hid (gainI ob js o i = valI ob js o - valI ob js (swI o i)) := rfl
  go_enter Try.func47, Try.ntmps47
  go_wp2_with fail
  refine (l2Value_any A (some ad) c d js o ob _ hr hq ht ho).mono ?_
  rintro e w1 ⟨rfl, hb1⟩
  rw [show valOf ob js (endsL js (natsOf o)) = valI ob js o from rfl]
  go_wp2_with fail
  refine (l2Swap_any ad d o i _ (hq.below hb1) hm hi).mono ?_
  rintro e w2 ⟨v, rfl, hown, hb2⟩
  obtain ⟨A', c', rfl, hrow⟩ := own_whole hown
  have hbb := hb1.trans (hb2.mono hb1.size)
  have H := l2Value_any A A' c c' js (swI o i) ob w2 (hr.below hbb) hrow (two_swap ht hi) ho
  rw [swI_len] at H
  have HH := Lib.hid H
  have HB := Lib.hid hbb
  clear H hbb hb1 hb2 hown hrow hr hq
  go_wp2_with fail
  refine HH.out.mono ?_
  rintro e w3 ⟨rfl, hb3⟩
  rw [show valOf ob js (endsL js (natsOf (swI o i))) = valI ob js (swI o i) from rfl]
  go_wp2
  go_ret
  exact ⟨by rw [HV.out]; rfl, HB.out.trans (hb3.mono HB.out.size)⟩
theorem arr_but {v0 v1 v2 v3 v4 v5 v6 v7 v8 v9 v10 u6 u7 : Value} (j : Nat) (h6 : j ≠ 6) (h7 : j ≠ 7) : (#[v0, v1, v2, v3, v4, v5, u6, u7, v8, v9, v10] : Array Value).getD j undef = (#[v0, v1, v2, v3, v4, v5, v6, v7, v8, v9, v10] : Array Value).getD j undef := by
  rcases (by omega : j = 0 ∨ j = 1 ∨ j = 2 ∨ j = 3 ∨ j = 4 ∨ j = 5 ∨ j = 8 ∨ j = 9 ∨ j = 10 ∨ 10 < j) with rfl | rfl | rfl | rfl | rfl | rfl | rfl | rfl | rfl | h
  all_goals first | rfl | (simp only [Array.getD_eq_getD_getElem?]; rw [Array.getElem?_eq_none (by simp; omega), Array.getElem?_eq_none (by simp; omega)])
set_option maxRecDepth 100000 in
set_option maxHeartbeats 4000000 in
theorem exchangeGain_any {B : Nat} {w : World} {ob : Int} {fv : Value} (h : FnIs B w ob fv) (hB : B ≤ w.heap.size) (A : Option Addr) (ad : Addr) (c d : Nat) (js : List J) (o : List Int) (i : Nat) (hr : Row w A (jc js)) (hq : Row w (some ad) (ic o)) (ht : twoB js o = true) (ho : isObj ob = true) (hi : i + 1 < o.length) (hm : o.length ≤ 100000) :
    Calls Try.prog 50 #[.agg #[fv, .bool (isTop ob)], .slice A js.length c, .slice (some ad) o.length d, .int .i64 (i : Int)] w fun e w' => e = .returned (.int .i64 (gainI ob js o i)) ∧ Below w.heap.size w w' := by
  have b1 := valI_bd ho ht
  have b2 := valI_bd ho (two_swap ht hi)
  have HV : Hid (gainI ob js o i = valI ob js o - valI ob js (swI o i)) := rfl
  have hg := (two_out ht).1
  have h8 := (good_out hg).1
  have HE1 := Lib.hid (And.intro (endsL_len js (natsOf o)) (two_bd ht))
  have HE2 := Lib.hid (And.intro (endsL_len js (natsOf (swI o i))) (two_bd (two_swap ht hi)))
  have HF := Lib.hid h
  obtain ⟨f, caps, rfl, _, _⟩ := cost_call h
  generalize htp : isTop ob = tp at *
  have HTP := Lib.hid htp
  clear h htp
  have hM0 := BlockIs.new w 70 #[.func (.func f) #[] caps, .bool tp]
  have hbm : Below w.heap.size w (w.alloc (.cells #[.func (.func f) #[] caps, .bool tp] 70)) := (Below.refl _ _).alloc (Nat.le_refl _) _
  go_enter Try.func50, Try.ntmps50
  go_wp2_with fail
  generalize w.alloc (.cells #[.func (.func f) #[] caps, .bool tp] 70) = w0 at *
  have HBW := Lib.hid hbm
  have HVF : ∀ (w9 : World), Below w0.heap.size w0 w9 → BlockIs w9 w0.heap.size 3 (ic (endsL js (natsOf o))).toArray → Calls Try.prog 67 #[.agg #[.func (.func f) #[] caps, .bool tp], .slice A js.length c, .slice (some ⟨w0.heap.size, 0, none⟩) js.length js.length] w9 fun e w' => e = .returned (.int .i64 (valI ob js o)) ∧ Below w9.heap.size w9 w' := fun w9 hb3 hB3 => by
    have := valueFor_any (w := w9) (HF.out.keep (fun b hb => (HBW.out.trans (hb3.mono HBW.out.size)).block b (by omega))) (by have := hb3.size; have := HBW.out.size; omega) ho A (some ⟨w0.heap.size, 0, none⟩) c js.length js (endsL js (natsOf o)) ((hr.below HBW.out).below hb3) (seg_of_block hB3 (Nat.zero_le _) (by rw [HE1.out.1]; unfold maxLen; omega)).row hg HE1.out.1 HE1.out.2
    rw [HTP.out] at this
    exact this
  clear hbm
  refine wp_region_detL (by kernel_rfl) (fun L w' => Below w0.heap.size w0 w' ∧ (L.getD 4 true = false → w'.heap.size = w0.heap.size) ∧ (L.getD 4 true = true → BlockIs w' w0.heap.size 3 (ic (endsL js (natsOf o))).toArray))
    (fun kk => #[.agg #[.func (.func f) #[] caps, .bool tp], .slice A js.length c, .slice A js.length c, .slice (some ad) o.length d, .slice (some ⟨w0.heap.size, 0, none⟩) js.length js.length, .int .i64 (valI ob js o), .int .i64 (valI ob js o)].getD kk undef) (by kernel_rfl) (by kernel_rfl) ⟨(Below.refl _ _).drew, fun _ => rfl, fun h => by cases h⟩ ?_ ?_
  · intro L tm w3 hall hS hsz hlow hval
    have ht : tm = #[.agg #[.func (.func f) #[] caps, .bool tp], .slice A js.length c, .slice (some ad) o.length d, .int .i64 (i : Int), .pointer (some ⟨w.heap.size, 0, none⟩), undef, undef, undef, .int .i64 0, .int .i64 (valI ob js o), .agg #[.func (.func f) #[] caps, .bool tp], .slice A js.length c, .slice A js.length c, .slice (some ad) o.length d, .slice (some ⟨w0.heap.size, 0, none⟩) js.length js.length, .int .i64 (valI ob js o), undef, undef, undef, undef, undef, undef, undef, undef, undef, undef] := by
      refine arr_of _ _ hsz fun t ht => ?_
      have ht' : t < 26 := ht
      rcases (by omega : t = 0 ∨ t = 1 ∨ t = 2 ∨ t = 3 ∨ t = 4 ∨ t = 5 ∨ t = 6 ∨ t = 7 ∨ t = 8 ∨ t = 9 ∨ t = 10 ∨ t = 11 ∨ t = 12 ∨ t = 13 ∨ t = 14 ∨ t = 15 ∨ t = 16 ∨ t = 17 ∨ t = 18 ∨ t = 19 ∨ t = 20 ∨ t = 21 ∨ t = 22 ∨ t = 23 ∨ t = 24 ∨ t = 25) with rfl | rfl | rfl | rfl | rfl | rfl | rfl | rfl | rfl | rfl | rfl | rfl | rfl | rfl | rfl | rfl | rfl | rfl | rfl | rfl | rfl | rfl | rfl | rfl | rfl | rfl
      · exact hlow 0 (by kernel_rfl)
      · exact hlow 1 (by kernel_rfl)
      · exact hlow 2 (by kernel_rfl)
      · exact hlow 3 (by kernel_rfl)
      · exact hlow 4 (by kernel_rfl)
      · exact hlow 5 (by kernel_rfl)
      · exact hlow 6 (by kernel_rfl)
      · exact hlow 7 (by kernel_rfl)
      · exact hlow 8 (by kernel_rfl)
      · exact hval 6 _ 9 rfl rfl
      · exact hval 0 _ 10 rfl rfl
      · exact hval 1 _ 11 rfl rfl
      · exact hval 2 _ 12 rfl rfl
      · exact hval 3 _ 13 rfl rfl
      · exact hval 4 _ 14 rfl rfl
      · exact hval 5 _ 15 rfl rfl
      · exact hlow 16 (by kernel_rfl)
      · exact hlow 17 (by kernel_rfl)
      · exact hlow 18 (by kernel_rfl)
      · exact hlow 19 (by kernel_rfl)
      · exact hlow 20 (by kernel_rfl)
      · exact hlow 21 (by kernel_rfl)
      · exact hlow 22 (by kernel_rfl)
      · exact hlow 23 (by kernel_rfl)
      · exact hlow 24 (by kernel_rfl)
      · exact hlow 25 (by kernel_rfl)
    subst ht
    clear hlow hval hsz
    obtain ⟨hbx, _, _⟩ := hS
    skip
    have hM3 := hM0.below hbx
    have HBW2 := Lib.hid (HBW.out.trans (hbx.mono HBW.out.size))
    clear hM0 HVF
    clear HBW
    have HBW := HBW2
    clear HBW2 hbx
    have HVF2 : ∀ (w9 : World) (gg : Nat), Below w3.heap.size w3 w9 → BlockIs w9 gg 3 (ic (endsL js (natsOf (swI o i)))).toArray → Calls Try.prog 67 #[.agg #[.func (.func f) #[] caps, .bool tp], .slice A js.length c, .slice (some ⟨gg, 0, none⟩) js.length js.length] w9 fun e w' => e = .returned (.int .i64 (valI ob js (swI o i))) ∧ Below w9.heap.size w9 w' := fun w9 gg hb3 hB3 => by
      have := valueFor_any (w := w9) (HF.out.keep (fun b hb => (HBW.out.trans (hb3.mono HBW.out.size)).block b (by omega))) (by have := hb3.size; have := HBW.out.size; omega) ho A (some ⟨gg, 0, none⟩) c js.length js (endsL js (natsOf (swI o i))) ((hr.below HBW.out).below hb3) (seg_of_block hB3 (Nat.zero_le _) (by rw [HE2.out.1]; unfold maxLen; omega)).row hg HE2.out.1 HE2.out.2
      rw [HTP.out] at this
      exact this
    go_wp2
    refine wp_region_detG (by kernel_rfl) (fun x L w' => Below w3.heap.size w3 w' ∧ (L.getD 6 true = true → ∃ A' c', x.1 = .slice A' o.length c' ∧ Row w' A' (ic (swI o i))) ∧ (L.getD 7 true = true → BlockIs w' x.2 3 (ic (endsL js (natsOf (swI o i)))).toArray))
      (fun x kk => #[.int .i64 (valI ob js o), .agg #[.func (.func f) #[] caps, .bool tp], .slice A js.length c, .slice A js.length c, .slice (some ad) o.length d, .int .i64 (i : Int), x.1, .slice (some ⟨x.2, 0, none⟩) js.length js.length, .int .i64 (valI ob js (swI o i)), .int .i64 (valI ob js o - valI ob js (swI o i)), .int .i64 (valI ob js o - valI ob js (swI o i))].getD kk undef) (undef, 0) (by kernel_rfl) (by kernel_rfl) ⟨(Below.refl _ _).drew, (fun h => by cases h), fun h => by cases h⟩ ?_ ?_
    · intro x L tm w' hall hS hsz hlow hval
      have ht : tm = #[.agg #[.func (.func f) #[] caps, .bool tp], .slice A js.length c, .slice (some ad) o.length d, .int .i64 (i : Int), .pointer (some ⟨w.heap.size, 0, none⟩), undef, undef, undef, .int .i64 (valI ob js o - valI ob js (swI o i)), .int .i64 (valI ob js o), .agg #[.func (.func f) #[] caps, .bool tp], .slice A js.length c, .slice A js.length c, .slice (some ad) o.length d, .slice (some ⟨w0.heap.size, 0, none⟩) js.length js.length, .int .i64 (valI ob js o), .int .i64 (valI ob js o), .agg #[.func (.func f) #[] caps, .bool tp], .slice A js.length c, .slice A js.length c, .slice (some ad) o.length d, .int .i64 (i : Int), x.1, .slice (some ⟨x.2, 0, none⟩) js.length js.length, .int .i64 (valI ob js (swI o i)), .int .i64 (valI ob js o - valI ob js (swI o i))] := by
        refine arr_of _ _ hsz fun t ht => ?_
        have ht' : t < 26 := ht
        rcases (by omega : t = 0 ∨ t = 1 ∨ t = 2 ∨ t = 3 ∨ t = 4 ∨ t = 5 ∨ t = 6 ∨ t = 7 ∨ t = 8 ∨ t = 9 ∨ t = 10 ∨ t = 11 ∨ t = 12 ∨ t = 13 ∨ t = 14 ∨ t = 15 ∨ t = 16 ∨ t = 17 ∨ t = 18 ∨ t = 19 ∨ t = 20 ∨ t = 21 ∨ t = 22 ∨ t = 23 ∨ t = 24 ∨ t = 25) with rfl | rfl | rfl | rfl | rfl | rfl | rfl | rfl | rfl | rfl | rfl | rfl | rfl | rfl | rfl | rfl | rfl | rfl | rfl | rfl | rfl | rfl | rfl | rfl | rfl | rfl
        · exact hlow 0 (by kernel_rfl)
        · exact hlow 1 (by kernel_rfl)
        · exact hlow 2 (by kernel_rfl)
        · exact hlow 3 (by kernel_rfl)
        · exact hlow 4 (by kernel_rfl)
        · exact hlow 5 (by kernel_rfl)
        · exact hlow 6 (by kernel_rfl)
        · exact hlow 7 (by kernel_rfl)
        · exact hval 10 _ 8 rfl rfl
        · exact hlow 9 (by kernel_rfl)
        · exact hlow 10 (by kernel_rfl)
        · exact hlow 11 (by kernel_rfl)
        · exact hlow 12 (by kernel_rfl)
        · exact hlow 13 (by kernel_rfl)
        · exact hlow 14 (by kernel_rfl)
        · exact hlow 15 (by kernel_rfl)
        · exact hval 0 _ 16 rfl rfl
        · exact hval 1 _ 17 rfl rfl
        · exact hval 2 _ 18 rfl rfl
        · exact hval 3 _ 19 rfl rfl
        · exact hval 4 _ 20 rfl rfl
        · exact hval 5 _ 21 rfl rfl
        · exact hval 6 _ 22 rfl rfl
        · exact hval 7 _ 23 rfl rfl
        · exact hval 8 _ 24 rfl rfl
        · exact hval 9 _ 25 rfl rfl
      subst ht
      clear hlow hval hsz
      go_wp2
      go_ret
      exact ⟨by rw [HV.out]; rfl, HBW.out.trans (hS.1.mono HBW.out.size)⟩
    · intro x L a w' kk op hLs ho hLi hLd hLn ⟨hS0, hS1, hS2⟩ hlow hdep hold
      have hkk : kk < 11 := (Array.getElem?_eq_some_iff.1 ho).1
      have l1 : a.tmps[1]?.getD undef = .slice A js.length c := by rw [← Array.getD_eq_getD_getElem?]; exact hlow 1 (by kernel_rfl)
      have l2 : a.tmps[2]?.getD undef = .slice (some ad) o.length d := by rw [← Array.getD_eq_getD_getElem?]; exact hlow 2 (by kernel_rfl)
      have l3 : a.tmps[3]?.getD undef = .int .i64 (i : Int) := by rw [← Array.getD_eq_getD_getElem?]; exact hlow 3 (by kernel_rfl)
      have l4 : a.tmps[4]?.getD undef = .pointer (some ⟨w.heap.size, 0, none⟩) := by rw [← Array.getD_eq_getD_getElem?]; exact hlow 4 (by kernel_rfl)
      have l9 : a.tmps[9]?.getD undef = .int .i64 (valI ob js o) := by rw [← Array.getD_eq_getD_getElem?]; exact hlow 9 (by kernel_rfl)
      have D : ∀ j oj d, edgeB _ kk j = true → _ → _ → a.tmps[d]?.getD undef = _ := fun j oj d h1 h2 h3 => (Array.getD_eq_getD_getElem? ..).symm.trans (hdep j oj d h1 h2 h3)
      have K : ∀ {k : Nat}, k ≠ 6 → k ≠ 7 → Below w3.heap.size w3 w' ∧ ((L.setIfInBounds k true).getD 6 true = true → ∃ A' c', x.1 = .slice A' o.length c' ∧ Row w' A' (ic (swI o i))) ∧ ((L.setIfInBounds k true).getD 7 true = true → BlockIs w' x.2 3 (ic (endsL js (natsOf (swI o i)))).toArray) := fun h6 h7 => ⟨hS0, by rw [set_ne h6]; exact hS1, by rw [set_ne h7]; exact hS2⟩
      have hc0 := (hM3.below hS0).cell 0
      have hc1 := (hM3.below hS0).cell 1
      simp at hc0 hc1
      have KB : ∀ w'' : World, Below w'.heap.size w' w'' → Below w3.heap.size w3 w'' := fun w'' h => hS0.trans (h.mono hS0.size)
      rcases (by omega : kk = 0 ∨ kk = 1 ∨ kk = 2 ∨ kk = 3 ∨ kk = 4 ∨ kk = 5 ∨ kk = 6 ∨ kk = 7 ∨ kk = 8 ∨ kk = 9 ∨ kk = 10) with rfl | rfl | rfl | rfl | rfl | rfl | rfl | rfl | rfl | rfl | rfl
      · obtain rfl := Option.some.inj ho
        exact ⟨rfl, .inl ⟨w', by simp [execOp, Act.eval, l9, go_sem], K (by decide) (by decide)⟩⟩
      · obtain rfl := Option.some.inj ho
        exact ⟨rfl, .inl ⟨w', by simp [execOp, Act.eval, l4, hc0, hc1, go_sem], K (by decide) (by decide)⟩⟩
      · obtain rfl := Option.some.inj ho
        exact ⟨rfl, .inl ⟨w', by simp [execOp, Act.eval, l1, go_sem], K (by decide) (by decide)⟩⟩
      · obtain rfl := Option.some.inj ho
        exact ⟨rfl, .inl ⟨w', by simp [execOp, Act.eval, l1, go_sem], K (by decide) (by decide)⟩⟩
      · obtain rfl := Option.some.inj ho
        exact ⟨rfl, .inl ⟨w', by simp [execOp, Act.eval, l2, go_sem], K (by decide) (by decide)⟩⟩
      · obtain rfl := Option.some.inj ho
        exact ⟨rfl, .inl ⟨w', by simp [execOp, Act.eval, l3, go_sem], K (by decide) (by decide)⟩⟩
      · obtain rfl := Option.some.inj ho
        have e20 : a.tmps[20]?.getD undef = .slice (some ad) o.length d := D 4 _ 20 (by kernel_rfl) rfl rfl
        have e21 : a.tmps[21]?.getD undef = .int .i64 (i : Int) := D 5 _ 21 (by kernel_rfl) rfl rfl
        refine ⟨rfl, .inr ⟨56, #[.slice (some ad) o.length d, .int .i64 (i : Int)], by simp [execOp, Act.eval, e20, e21, go_sem], (exchanged_any ad d o i w' ((hq.below HBW.out).below hS0) hm hi).mono ?_⟩⟩
        rintro e w'' ⟨v, rfl, hown, hb4⟩
        obtain ⟨A', c', rfl, hrow⟩ := own_whole hown
        refine ⟨(.slice A' o.length c', x.2), fun j hj => ?_, rfl, KB _ hb4, fun _ => ⟨A', c', rfl, hrow⟩, fun h => ?_⟩
        · have n6 : j ≠ 6 := fun e => by subst e; rw [hLi] at hj; cases hj
          have n7 : L.getD 7 true = false := hLn 7 (by kernel_rfl)
          have n7' : j ≠ 7 := fun e => by subst e; rw [n7] at hj; cases hj
          exact arr_but j n6 n7'
        · rw [set_ne (by decide), hLn 7 (by kernel_rfl)] at h; cases h
      · obtain rfl := Option.some.inj ho
        have e19 : a.tmps[19]?.getD undef = .slice A js.length c := D 3 _ 19 (by kernel_rfl) rfl rfl
        have e22 : a.tmps[22]?.getD undef = x.1 := D 6 _ 22 (by kernel_rfl) rfl rfl
        obtain ⟨A', c', hx1, hrow⟩ := hS1 (hLd 6 (by kernel_rfl))
        rw [hx1] at e22
        have HH7 := endsIn_o A A' c c' js (swI o i) w' ((hr.below HBW.out).below hS0) hrow (two_swap ht hi)
        rw [swI_len] at HH7
        refine ⟨rfl, .inr ⟨68, #[.slice A js.length c, .slice A' o.length c'], by simp [execOp, Act.eval, e19, e22, go_sem], (HH7).mono ?_⟩⟩
        rintro e w'' ⟨g5, rfl, _, hB5, hb5⟩
        refine ⟨(x.1, g5), fun j hj => ?_, rfl, KB _ hb5, fun _ => ⟨A', c', hx1, hrow.below hb5⟩, fun _ => hB5⟩
        have n7 : j ≠ 7 := fun e => by subst e; rw [hLi] at hj; cases hj
        by_cases e6 : j = 6
        · subst e6; rfl
        · exact arr_but j e6 n7
      · obtain rfl := Option.some.inj ho
        have e17 : a.tmps[17]?.getD undef = .agg #[.func (.func f) #[] caps, .bool tp] := D 1 _ 17 (by kernel_rfl) rfl rfl
        have e18 : a.tmps[18]?.getD undef = .slice A js.length c := D 2 _ 18 (by kernel_rfl) rfl rfl
        have e23 : a.tmps[23]?.getD undef = .slice (some ⟨x.2, 0, none⟩) js.length js.length := D 7 _ 23 (by kernel_rfl) rfl rfl
        refine ⟨rfl, .inr ⟨67, #[.agg #[.func (.func f) #[] caps, .bool tp], .slice A js.length c, .slice (some ⟨x.2, 0, none⟩) js.length js.length], by simp [execOp, Act.eval, e17, e18, e23, go_sem], (HVF2 w' x.2 hS0 (hS2 (hLd 7 (by kernel_rfl)))).mono ?_⟩⟩
        rintro e w'' ⟨rfl, hb6⟩
        exact ⟨x, fun _ _ => rfl, rfl, KB _ hb6, (fun h => by rw [set_ne (by decide)] at h; obtain ⟨A', c', hx1, hrow⟩ := hS1 h; exact ⟨A', c', hx1, hrow.below hb6⟩), fun _ => (hS2 (hLd 7 (by kernel_rfl))).below hb6⟩
      · obtain rfl := Option.some.inj ho
        have e16 : a.tmps[16]?.getD undef = .int .i64 (valI ob js o) := D 0 _ 16 (by kernel_rfl) rfl rfl
        have e24 : a.tmps[24]?.getD undef = .int .i64 (valI ob js (swI o i)) := D 8 _ 24 (by kernel_rfl) rfl rfl
        exact ⟨rfl, .inl ⟨w', by simp [execOp, Act.eval, e16, e24, go_sem]; exact IntWalk.i64_in _ (by omega), K (by decide) (by decide)⟩⟩
      · obtain rfl := Option.some.inj ho
        have e25 : a.tmps[25]?.getD undef = .int .i64 (valI ob js o - valI ob js (swI o i)) := D 9 _ 25 (by kernel_rfl) rfl rfl
        exact ⟨rfl, .inl ⟨w', by simp [execOp, Act.eval, e25, go_sem], K (by decide) (by decide)⟩⟩
  · intro L a w' kk op hLs ho hLi hLd hLn ⟨hS0, hS1, hS2⟩ hlow hdep hold
    have hkk : kk < 7 := (Array.getElem?_eq_some_iff.1 ho).1
    have l1 : a.tmps[1]?.getD undef = .slice A js.length c := by rw [← Array.getD_eq_getD_getElem?]; exact hlow 1 (by kernel_rfl)
    have l2 : a.tmps[2]?.getD undef = .slice (some ad) o.length d := by rw [← Array.getD_eq_getD_getElem?]; exact hlow 2 (by kernel_rfl)
    have l4 : a.tmps[4]?.getD undef = .pointer (some ⟨w.heap.size, 0, none⟩) := by rw [← Array.getD_eq_getD_getElem?]; exact hlow 4 (by kernel_rfl)
    have D : ∀ j oj d, edgeB _ kk j = true → _ → _ → a.tmps[d]?.getD undef = _ := fun j oj d h1 h2 h3 => (Array.getD_eq_getD_getElem? ..).symm.trans (hdep j oj d h1 h2 h3)
    have K : ∀ {k : Nat}, k ≠ 4 → Below w0.heap.size w0 w' ∧ ((L.setIfInBounds k true).getD 4 true = false → w'.heap.size = w0.heap.size) ∧ ((L.setIfInBounds k true).getD 4 true = true → BlockIs w' w0.heap.size 3 (ic (endsL js (natsOf o))).toArray) := fun hne => ⟨hS0, by rw [set_ne hne]; exact hS1, by rw [set_ne hne]; exact hS2⟩
    have hc0 := (hM0.below hS0).cell 0
    have hc1 := (hM0.below hS0).cell 1
    simp at hc0 hc1
    rcases (by omega : kk = 0 ∨ kk = 1 ∨ kk = 2 ∨ kk = 3 ∨ kk = 4 ∨ kk = 5 ∨ kk = 6) with rfl | rfl | rfl | rfl | rfl | rfl | rfl
    · obtain rfl := Option.some.inj ho
      exact ⟨rfl, .inl ⟨w', by simp [execOp, Act.eval, l4, hc0, hc1, go_sem], K (by decide)⟩⟩
    · obtain rfl := Option.some.inj ho
      exact ⟨rfl, .inl ⟨w', by simp [execOp, Act.eval, l1, go_sem], K (by decide)⟩⟩
    · obtain rfl := Option.some.inj ho
      exact ⟨rfl, .inl ⟨w', by simp [execOp, Act.eval, l1, go_sem], K (by decide)⟩⟩
    · obtain rfl := Option.some.inj ho
      exact ⟨rfl, .inl ⟨w', by simp [execOp, Act.eval, l2, go_sem], K (by decide)⟩⟩
    · obtain rfl := Option.some.inj ho
      have e12 : a.tmps[12]?.getD undef = .slice A js.length c := D 2 _ 12 (by kernel_rfl) rfl rfl
      have e13 : a.tmps[13]?.getD undef = .slice (some ad) o.length d := D 3 _ 13 (by kernel_rfl) rfl rfl
      refine ⟨rfl, .inr ⟨68, #[.slice A js.length c, .slice (some ad) o.length d], by simp [execOp, Act.eval, e12, e13, go_sem], (endsIn_o_at A (some ad) c d js o w' ((hr.below HBW.out).below hS0) ((hq.below HBW.out).below hS0) ht).mono ?_⟩⟩
      rintro e w'' ⟨rfl, hB3, hb3⟩
      rw [hS1 hLi] at hB3 ⊢
      exact ⟨rfl, hS0.trans (hb3.mono hS0.size), (fun h => by rw [set_eq (by rw [hLs]; decide)] at h; cases h), fun _ => hB3⟩
    · obtain rfl := Option.some.inj ho
      have e10 : a.tmps[10]?.getD undef = .agg #[.func (.func f) #[] caps, .bool tp] := D 0 _ 10 (by kernel_rfl) rfl rfl
      have e11 : a.tmps[11]?.getD undef = .slice A js.length c := D 1 _ 11 (by kernel_rfl) rfl rfl
      have e14 : a.tmps[14]?.getD undef = .slice (some ⟨w0.heap.size, 0, none⟩) js.length js.length := D 4 _ 14 (by kernel_rfl) rfl rfl
      refine ⟨rfl, .inr ⟨67, #[.agg #[.func (.func f) #[] caps, .bool tp], .slice A js.length c, .slice (some ⟨w0.heap.size, 0, none⟩) js.length js.length], by simp [execOp, Act.eval, e10, e11, e14, go_sem], (HVF w' hS0 (hS2 (hLd 4 (by kernel_rfl)))).mono ?_⟩⟩
      rintro e w'' ⟨rfl, hb3⟩
      exact ⟨rfl, hS0.trans (hb3.mono hS0.size), (fun h => by rw [set_ne (by decide)] at h; rw [hLd 4 (by kernel_rfl)] at h; cases h), fun _ => (hS2 (hLd 4 (by kernel_rfl))).below hb3⟩
    · obtain rfl := Option.some.inj ho
      have e15 : a.tmps[15]?.getD undef = .int .i64 (valI ob js o) := D 5 _ 15 (by kernel_rfl) rfl rfl
      exact ⟨rfl, .inl ⟨w', by simp [execOp, Act.eval, e15, go_sem], K (by decide)⟩⟩
end Go.Proofs.Ytekocnmcenmcnab
