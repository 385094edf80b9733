/- What a job costs, by the function that measureOf hands back. -/
import Derived.Test.YtjemjdlaoebffaaMeas
import Derived.Test.YtjemjdlaoebffaaValP
import Derived.IntWalk
namespace Go.Proofs.Ytjemjdlaoebffaa
open Go.RowKit
section
variable (j : J) (x : Int) (w : World) (hj : okJ j = true) (h0 : 0 ≤ x) (h1 : x ≤ 10000)
theorem end_call : Calls Try.prog 121 #[.agg #[.int .i64 j.t, .int .i64 j.w, .int .i64 j.r, .int .i64 j.d], .int .i64 x] w fun e w' => e = .returned (.int .i64 x) ∧ Below w.heap.size w w' := by
  go_enter Try.func121, Try.ntmps121
  go_wp2
  go_ret
  exact ⟨rfl, (Below.refl _ _).alloc (Nat.le_refl _) _⟩
include hj h0 h1
theorem lat_call : Calls Try.prog 122 #[.agg #[.int .i64 j.t, .int .i64 j.w, .int .i64 j.r, .int .i64 j.d], .int .i64 x] w fun e w' => e = .returned (.int .i64 (x - j.d)) ∧ Below w.heap.size w w' := by
  obtain ⟨_, _, _, _, _, _, d0, d1⟩ := okJ_out hj
  clear hj
  go_enter Try.func122, Try.ntmps122
  go_wp2
  go_ret
  exact ⟨rfl, (Below.refl _ _).alloc (Nat.le_refl _) _⟩
theorem tar_call (b : Nat) (hB : BlockIs w b 138 #[fLat]) : Calls Try.prog 123 #[.agg #[.int .i64 j.t, .int .i64 j.w, .int .i64 j.r, .int .i64 j.d], .int .i64 x, .pointer (some ⟨b, 0, none⟩)] w fun e w' => e = .returned (.int .i64 (max (x - j.d) 0)) ∧ Below w.heap.size w w' := by
  have hc := hB.cell 0
  simp at hc
  have hb := hB.lt
  clear hB
  by_cases hm : 0 ≤ x - j.d
  · have HM : Hid (max (x - j.d) 0 = x - j.d) := by show _ = _; omega
    have HJ := Lib.hid hj
    clear hj
    go_enter Try.func123, Try.ntmps123
    go_wp2_with fail
    refine (lat_call j x _ HJ.out h0 h1).mono ?_
    rintro e w1 ⟨rfl, hb1⟩
    go_wp2
    go_ret
    exact ⟨by rw [HM.out]; rfl, ((Below.refl _ _).alloc (Nat.le_refl _) _).trans (hb1.mono (by simp))⟩
  · have HM : Hid (max (x - j.d) 0 = 0) := by show _ = _; omega
    have HJ := Lib.hid hj
    clear hj
    go_enter Try.func123, Try.ntmps123
    go_wp2_with fail
    refine (lat_call j x _ HJ.out h0 h1).mono ?_
    rintro e w1 ⟨rfl, hb1⟩
    go_wp2
    go_ret
    exact ⟨by rw [HM.out]; rfl, ((Below.refl _ _).alloc (Nat.le_refl _) _).trans (hb1.mono (by simp))⟩
theorem late_call (b c : Nat) (hB : BlockIs w b 138 #[fTar c]) (hC : BlockIs w c 138 #[fLat]) : Calls Try.prog 124 #[.agg #[.int .i64 j.t, .int .i64 j.w, .int .i64 j.r, .int .i64 j.d], .int .i64 x, .pointer (some ⟨b, 0, none⟩)] w fun e w' => e = .returned (.int .i64 (min (max (x - j.d) 0) 1)) ∧ Below w.heap.size w w' := by
  have hc := hB.cell 0
  simp at hc
  have hb := hB.lt
  have HC := Lib.hid (hC.below ((Below.refl w.heap.size w).alloc (Nat.le_refl _) (.cells #[.int .i64 j.t, .int .i64 j.w, .int .i64 j.r, .int .i64 j.d] 95)))
  have HJ := Lib.hid hj
  clear hB hC hj
  by_cases hm : max (x - j.d) 0 ≤ 1
  · have HM : Hid (min (max (x - j.d) 0) 1 = max (x - j.d) 0) := by show _ = _; omega
    go_enter Try.func124, Try.ntmps124
    go_wp2_with fail
    refine (tar_call j x _ HJ.out h0 h1 c HC.out).mono ?_
    rintro e w1 ⟨rfl, hb1⟩
    generalize hy : max (x - j.d) 0 = y at *
    have HY := Lib.hid hy
    clear hy
    go_wp2
    go_ret
    exact ⟨by rw [HY.out, HM.out]; rfl, ((Below.refl _ _).alloc (Nat.le_refl _) _).trans (hb1.mono (by simp))⟩
  · have HM : Hid (min (max (x - j.d) 0) 1 = 1) := by show _ = _; omega
    go_enter Try.func124, Try.ntmps124
    go_wp2_with fail
    refine (tar_call j x _ HJ.out h0 h1 c HC.out).mono ?_
    rintro e w1 ⟨rfl, hb1⟩
    generalize hy : max (x - j.d) 0 = y at *
    have HY := Lib.hid hy
    clear hy
    go_wp2
    go_ret
    exact ⟨by rw [HY.out, HM.out]; rfl, ((Below.refl _ _).alloc (Nat.le_refl _) _).trans (hb1.mono (by simp))⟩
omit hj h0 h1 in
theorem mul_cost {a b : Int} (ha : 0 ≤ a) (ha' : a ≤ 50) (hb : -10000 ≤ b) (hb' : b ≤ 10000) : -500000 ≤ a * b ∧ a * b ≤ 500000 := by
  have h1 := Int.mul_le_mul_of_nonneg_left hb' ha
  have h2 := Int.mul_le_mul_of_nonneg_left hb ha
  have h3 : a * 10000 ≤ 500000 := by omega
  have h4 : -500000 ≤ a * -10000 := by omega
  omega
set_option maxRecDepth 100000 in
theorem wgt_end (b : Nat) (hB : BlockIs w b 138 #[fEnd]) :
    Calls Try.prog 126 #[.agg #[.int .i64 j.t, .int .i64 j.w, .int .i64 j.r, .int .i64 j.d], .int .i64 x, .pointer (some ⟨b, 0, none⟩)] w fun e w' => e = .returned (.int .i64 (j.w * x)) ∧ Below w.heap.size w w' := by
  obtain ⟨_, _, w0, w1, _, _, d0, d1⟩ := okJ_out hj
  have hm := mul_cost w0 w1 (show -10000 ≤ x by omega) (show x ≤ 10000 by omega)
  have hnew := BlockIs.new w 95 #[.int .i64 j.t, .int .i64 j.w, .int .i64 j.r, .int .i64 j.d]
  have hbel : Below w.heap.size w (w.alloc (.cells #[.int .i64 j.t, .int .i64 j.w, .int .i64 j.r, .int .i64 j.d] 95)) := (Below.refl _ _).alloc (Nat.le_refl _) _
  have HJ := Lib.hid hj
  clear hj
  go_enter Try.func126, Try.ntmps126
  go_wp2_with fail
  refine wp_region_det (by kernel_rfl) (fun w' => Below w.heap.size w w' ∧ BlockIs w' w.heap.size 95 #[.int .i64 j.t, .int .i64 j.w, .int .i64 j.r, .int .i64 j.d])
    (fun i => #[.pointer (some ⟨w.heap.size, 1, none⟩), .int .i64 j.w, fEnd, .agg #[.int .i64 j.t, .int .i64 j.w, .int .i64 j.r, .int .i64 j.d], .int .i64 x, .int .i64 (x), .int .i64 (j.w * x), .int .i64 (j.w * x)].getD i undef) (by kernel_rfl) (by kernel_rfl) ⟨hbel.drew, hnew.drew⟩ ?_ ?_
  · intro tm w' hS hsz hlow hval
    have ht : tm = #[.agg #[.int .i64 j.t, .int .i64 j.w, .int .i64 j.r, .int .i64 j.d], .int .i64 x, .pointer (some ⟨b, 0, none⟩), .pointer (some ⟨w.heap.size, 0, none⟩), undef, .int .i64 (j.w * x), .pointer (some ⟨w.heap.size, 1, none⟩), .int .i64 j.w, fEnd, .agg #[.int .i64 j.t, .int .i64 j.w, .int .i64 j.r, .int .i64 j.d], .int .i64 x, .int .i64 (x), .int .i64 (j.w * x)] := by
      refine arr_of _ _ hsz fun t ht => ?_
      have ht' : t < 13 := ht
      rcases (by omega : t = 0 ∨ t = 1 ∨ t = 2 ∨ t = 3 ∨ t = 4 ∨ t = 5 ∨ t = 6 ∨ t = 7 ∨ t = 8 ∨ t = 9 ∨ t = 10 ∨ t = 11 ∨ t = 12) with rfl | rfl | rfl | rfl | rfl | rfl | rfl | rfl | rfl | rfl | rfl | rfl | rfl
      · exact hlow 0 (by kernel_rfl)
      · exact hlow 1 (by kernel_rfl)
      · exact hlow 2 (by kernel_rfl)
      · exact hlow 3 (by kernel_rfl)
      · exact hlow 4 (by kernel_rfl)
      · exact hval 7 _ 5 rfl rfl
      · exact hval 0 _ 6 rfl rfl
      · exact hval 1 _ 7 rfl rfl
      · exact hval 2 _ 8 rfl rfl
      · exact hval 3 _ 9 rfl rfl
      · exact hval 4 _ 10 rfl rfl
      · exact hval 5 _ 11 rfl rfl
      · exact hval 6 _ 12 rfl rfl
    subst ht
    clear hlow hval
    go_wp2
    go_ret
    exact ⟨rfl, hS.1⟩
  · intro a w' i op ho ⟨hb', hJ⟩ hlow hdep _
    have hi : i < 8 := (Array.getElem?_eq_some_iff.1 ho).1
    have l1 := hlow 1 (by kernel_rfl)
    have l2 := hlow 2 (by kernel_rfl)
    have l3 := hlow 3 (by kernel_rfl)
    have hBc := (hB.below hb').cell 0
    have hJ0 := hJ.cell 0
    have hJ1 := hJ.cell 1
    have hJ2 := hJ.cell 2
    have hJ3 := hJ.cell 3
    simp at hBc hJ0 hJ1 hJ2 hJ3
    have l1 : a.tmps[1]?.getD undef = .int .i64 x := by rw [← Array.getD_eq_getD_getElem?]; exact l1
    have l2 : a.tmps[2]?.getD undef = .pointer (some ⟨b, 0, none⟩) := by rw [← Array.getD_eq_getD_getElem?]; exact l2
    have l3 : a.tmps[3]?.getD undef = .pointer (some ⟨w.heap.size, 0, none⟩) := by rw [← Array.getD_eq_getD_getElem?]; exact l3
    have D : ∀ j oj d, edgeB _ i j = true → _ → _ → a.tmps[d]?.getD undef = _ := fun j oj d h1 h2 h3 => (Array.getD_eq_getD_getElem? ..).symm.trans (hdep j oj d h1 h2 h3)
    rcases (by omega : i = 0 ∨ i = 1 ∨ i = 2 ∨ i = 3 ∨ i = 4 ∨ i = 5 ∨ i = 6 ∨ i = 7) with rfl | rfl | rfl | rfl | rfl | rfl | rfl | rfl
    · obtain rfl := Option.some.inj ho
      exact ⟨rfl, .inl ⟨w', by simp [execOp, Act.eval, l3, go_sem], hb', hJ⟩⟩
    · obtain rfl := Option.some.inj ho
      have e : a.tmps[6]?.getD undef = .pointer (some ⟨w.heap.size, 1, none⟩) := D 0 _ 6 (by kernel_rfl) rfl rfl
      exact ⟨rfl, .inl ⟨w', by simp [execOp, Act.eval, e, hJ1, go_sem], hb', hJ⟩⟩
    · obtain rfl := Option.some.inj ho
      exact ⟨rfl, .inl ⟨w', by simp [execOp, Act.eval, l2, hBc, go_sem], hb', hJ⟩⟩
    · obtain rfl := Option.some.inj ho
      exact ⟨rfl, .inl ⟨w', by simp [execOp, Act.eval, l3, hJ0, hJ1, hJ2, hJ3, go_sem], hb', hJ⟩⟩
    · obtain rfl := Option.some.inj ho
      exact ⟨rfl, .inl ⟨w', by simp [execOp, Act.eval, l1, go_sem], hb', hJ⟩⟩
    · obtain rfl := Option.some.inj ho
      have e8 : a.tmps[8]?.getD undef = fEnd := D 2 _ 8 (by kernel_rfl) rfl rfl
      have e9 : a.tmps[9]?.getD undef = .agg #[.int .i64 j.t, .int .i64 j.w, .int .i64 j.r, .int .i64 j.d] := D 3 _ 9 (by kernel_rfl) rfl rfl
      have e10 : a.tmps[10]?.getD undef = .int .i64 x := D 4 _ 10 (by kernel_rfl) rfl rfl
      refine ⟨rfl, .inr ⟨121, #[.agg #[.int .i64 j.t, .int .i64 j.w, .int .i64 j.r, .int .i64 j.d], .int .i64 x], by simp [execOp, Act.eval, e8, e9, e10, go_sem], (end_call j x _).mono ?_⟩⟩
      rintro e w'' ⟨rfl, hb2⟩
      exact ⟨rfl, hb'.trans (hb2.mono hb'.size), hJ.below hb2⟩
    · obtain rfl := Option.some.inj ho
      have e7 : a.tmps[7]?.getD undef = .int .i64 j.w := D 1 _ 7 (by kernel_rfl) rfl rfl
      have e11 : a.tmps[11]?.getD undef = .int .i64 (x) := D 5 _ 11 (by kernel_rfl) rfl rfl
      exact ⟨rfl, .inl ⟨w', by simp [execOp, Act.eval, e7, e11, go_sem]; exact IntWalk.i64_in _ (by omega), hb', hJ⟩⟩
    · obtain rfl := Option.some.inj ho
      have e12 : a.tmps[12]?.getD undef = .int .i64 (j.w * x) := D 6 _ 12 (by kernel_rfl) rfl rfl
      exact ⟨rfl, .inl ⟨w', by simp [execOp, Act.eval, e12, go_sem], hb', hJ⟩⟩
set_option maxRecDepth 100000 in
theorem wgt_tar (b c : Nat) (hB : BlockIs w b 138 #[fTar c]) (hC : BlockIs w c 138 #[fLat]) :
    Calls Try.prog 126 #[.agg #[.int .i64 j.t, .int .i64 j.w, .int .i64 j.r, .int .i64 j.d], .int .i64 x, .pointer (some ⟨b, 0, none⟩)] w fun e w' => e = .returned (.int .i64 (j.w * max (x - j.d) 0)) ∧ Below w.heap.size w w' := by
  obtain ⟨_, _, w0, w1, _, _, d0, d1⟩ := okJ_out hj
  have hm := mul_cost w0 w1 (show -10000 ≤ max (x - j.d) 0 by omega) (show max (x - j.d) 0 ≤ 10000 by omega)
  have hnew := BlockIs.new w 95 #[.int .i64 j.t, .int .i64 j.w, .int .i64 j.r, .int .i64 j.d]
  have hbel : Below w.heap.size w (w.alloc (.cells #[.int .i64 j.t, .int .i64 j.w, .int .i64 j.r, .int .i64 j.d] 95)) := (Below.refl _ _).alloc (Nat.le_refl _) _
  have HJ := Lib.hid hj
  clear hj
  go_enter Try.func126, Try.ntmps126
  go_wp2_with fail
  refine wp_region_det (by kernel_rfl) (fun w' => Below w.heap.size w w' ∧ BlockIs w' w.heap.size 95 #[.int .i64 j.t, .int .i64 j.w, .int .i64 j.r, .int .i64 j.d])
    (fun i => #[.pointer (some ⟨w.heap.size, 1, none⟩), .int .i64 j.w, fTar c, .agg #[.int .i64 j.t, .int .i64 j.w, .int .i64 j.r, .int .i64 j.d], .int .i64 x, .int .i64 (max (x - j.d) 0), .int .i64 (j.w * max (x - j.d) 0), .int .i64 (j.w * max (x - j.d) 0)].getD i undef) (by kernel_rfl) (by kernel_rfl) ⟨hbel.drew, hnew.drew⟩ ?_ ?_
  · intro tm w' hS hsz hlow hval
    have ht : tm = #[.agg #[.int .i64 j.t, .int .i64 j.w, .int .i64 j.r, .int .i64 j.d], .int .i64 x, .pointer (some ⟨b, 0, none⟩), .pointer (some ⟨w.heap.size, 0, none⟩), undef, .int .i64 (j.w * max (x - j.d) 0), .pointer (some ⟨w.heap.size, 1, none⟩), .int .i64 j.w, fTar c, .agg #[.int .i64 j.t, .int .i64 j.w, .int .i64 j.r, .int .i64 j.d], .int .i64 x, .int .i64 (max (x - j.d) 0), .int .i64 (j.w * max (x - j.d) 0)] := by
      refine arr_of _ _ hsz fun t ht => ?_
      have ht' : t < 13 := ht
      rcases (by omega : t = 0 ∨ t = 1 ∨ t = 2 ∨ t = 3 ∨ t = 4 ∨ t = 5 ∨ t = 6 ∨ t = 7 ∨ t = 8 ∨ t = 9 ∨ t = 10 ∨ t = 11 ∨ t = 12) with rfl | rfl | rfl | rfl | rfl | rfl | rfl | rfl | rfl | rfl | rfl | rfl | rfl
      · exact hlow 0 (by kernel_rfl)
      · exact hlow 1 (by kernel_rfl)
      · exact hlow 2 (by kernel_rfl)
      · exact hlow 3 (by kernel_rfl)
      · exact hlow 4 (by kernel_rfl)
      · exact hval 7 _ 5 rfl rfl
      · exact hval 0 _ 6 rfl rfl
      · exact hval 1 _ 7 rfl rfl
      · exact hval 2 _ 8 rfl rfl
      · exact hval 3 _ 9 rfl rfl
      · exact hval 4 _ 10 rfl rfl
      · exact hval 5 _ 11 rfl rfl
      · exact hval 6 _ 12 rfl rfl
    subst ht
    clear hlow hval
    go_wp2
    go_ret
    exact ⟨rfl, hS.1⟩
  · intro a w' i op ho ⟨hb', hJ⟩ hlow hdep _
    have hi : i < 8 := (Array.getElem?_eq_some_iff.1 ho).1
    have l1 := hlow 1 (by kernel_rfl)
    have l2 := hlow 2 (by kernel_rfl)
    have l3 := hlow 3 (by kernel_rfl)
    have hBc := (hB.below hb').cell 0
    have hJ0 := hJ.cell 0
    have hJ1 := hJ.cell 1
    have hJ2 := hJ.cell 2
    have hJ3 := hJ.cell 3
    simp at hBc hJ0 hJ1 hJ2 hJ3
    have l1 : a.tmps[1]?.getD undef = .int .i64 x := by rw [← Array.getD_eq_getD_getElem?]; exact l1
    have l2 : a.tmps[2]?.getD undef = .pointer (some ⟨b, 0, none⟩) := by rw [← Array.getD_eq_getD_getElem?]; exact l2
    have l3 : a.tmps[3]?.getD undef = .pointer (some ⟨w.heap.size, 0, none⟩) := by rw [← Array.getD_eq_getD_getElem?]; exact l3
    have D : ∀ j oj d, edgeB _ i j = true → _ → _ → a.tmps[d]?.getD undef = _ := fun j oj d h1 h2 h3 => (Array.getD_eq_getD_getElem? ..).symm.trans (hdep j oj d h1 h2 h3)
    rcases (by omega : i = 0 ∨ i = 1 ∨ i = 2 ∨ i = 3 ∨ i = 4 ∨ i = 5 ∨ i = 6 ∨ i = 7) with rfl | rfl | rfl | rfl | rfl | rfl | rfl | rfl
    · obtain rfl := Option.some.inj ho
      exact ⟨rfl, .inl ⟨w', by simp [execOp, Act.eval, l3, go_sem], hb', hJ⟩⟩
    · obtain rfl := Option.some.inj ho
      have e : a.tmps[6]?.getD undef = .pointer (some ⟨w.heap.size, 1, none⟩) := D 0 _ 6 (by kernel_rfl) rfl rfl
      exact ⟨rfl, .inl ⟨w', by simp [execOp, Act.eval, e, hJ1, go_sem], hb', hJ⟩⟩
    · obtain rfl := Option.some.inj ho
      exact ⟨rfl, .inl ⟨w', by simp [execOp, Act.eval, l2, hBc, go_sem], hb', hJ⟩⟩
    · obtain rfl := Option.some.inj ho
      exact ⟨rfl, .inl ⟨w', by simp [execOp, Act.eval, l3, hJ0, hJ1, hJ2, hJ3, go_sem], hb', hJ⟩⟩
    · obtain rfl := Option.some.inj ho
      exact ⟨rfl, .inl ⟨w', by simp [execOp, Act.eval, l1, go_sem], hb', hJ⟩⟩
    · obtain rfl := Option.some.inj ho
      have e8 : a.tmps[8]?.getD undef = fTar c := D 2 _ 8 (by kernel_rfl) rfl rfl
      have e9 : a.tmps[9]?.getD undef = .agg #[.int .i64 j.t, .int .i64 j.w, .int .i64 j.r, .int .i64 j.d] := D 3 _ 9 (by kernel_rfl) rfl rfl
      have e10 : a.tmps[10]?.getD undef = .int .i64 x := D 4 _ 10 (by kernel_rfl) rfl rfl
      refine ⟨rfl, .inr ⟨123, #[.agg #[.int .i64 j.t, .int .i64 j.w, .int .i64 j.r, .int .i64 j.d], .int .i64 x, .pointer (some ⟨c, 0, none⟩)], by simp [execOp, Act.eval, e8, e9, e10, go_sem], (tar_call j x _ HJ.out h0 h1 c (hC.below hb')).mono ?_⟩⟩
      rintro e w'' ⟨rfl, hb2⟩
      exact ⟨rfl, hb'.trans (hb2.mono hb'.size), hJ.below hb2⟩
    · obtain rfl := Option.some.inj ho
      have e7 : a.tmps[7]?.getD undef = .int .i64 j.w := D 1 _ 7 (by kernel_rfl) rfl rfl
      have e11 : a.tmps[11]?.getD undef = .int .i64 (max (x - j.d) 0) := D 5 _ 11 (by kernel_rfl) rfl rfl
      exact ⟨rfl, .inl ⟨w', by simp [execOp, Act.eval, e7, e11, go_sem]; exact IntWalk.i64_in _ (by omega), hb', hJ⟩⟩
    · obtain rfl := Option.some.inj ho
      have e12 : a.tmps[12]?.getD undef = .int .i64 (j.w * max (x - j.d) 0) := D 6 _ 12 (by kernel_rfl) rfl rfl
      exact ⟨rfl, .inl ⟨w', by simp [execOp, Act.eval, e12, go_sem], hb', hJ⟩⟩
set_option maxRecDepth 100000 in
theorem wgt_late (b c d : Nat) (hB : BlockIs w b 138 #[fLate c]) (hC : BlockIs w c 138 #[fTar d]) (hD : BlockIs w d 138 #[fLat]) :
    Calls Try.prog 126 #[.agg #[.int .i64 j.t, .int .i64 j.w, .int .i64 j.r, .int .i64 j.d], .int .i64 x, .pointer (some ⟨b, 0, none⟩)] w fun e w' => e = .returned (.int .i64 (j.w * min (max (x - j.d) 0) 1)) ∧ Below w.heap.size w w' := by
  obtain ⟨_, _, w0, w1, _, _, d0, d1⟩ := okJ_out hj
  have hm := mul_cost w0 w1 (show -10000 ≤ min (max (x - j.d) 0) 1 by omega) (show min (max (x - j.d) 0) 1 ≤ 10000 by omega)
  have hnew := BlockIs.new w 95 #[.int .i64 j.t, .int .i64 j.w, .int .i64 j.r, .int .i64 j.d]
  have hbel : Below w.heap.size w (w.alloc (.cells #[.int .i64 j.t, .int .i64 j.w, .int .i64 j.r, .int .i64 j.d] 95)) := (Below.refl _ _).alloc (Nat.le_refl _) _
  have HJ := Lib.hid hj
  clear hj
  go_enter Try.func126, Try.ntmps126
  go_wp2_with fail
  refine wp_region_det (by kernel_rfl) (fun w' => Below w.heap.size w w' ∧ BlockIs w' w.heap.size 95 #[.int .i64 j.t, .int .i64 j.w, .int .i64 j.r, .int .i64 j.d])
    (fun i => #[.pointer (some ⟨w.heap.size, 1, none⟩), .int .i64 j.w, fLate c, .agg #[.int .i64 j.t, .int .i64 j.w, .int .i64 j.r, .int .i64 j.d], .int .i64 x, .int .i64 (min (max (x - j.d) 0) 1), .int .i64 (j.w * min (max (x - j.d) 0) 1), .int .i64 (j.w * min (max (x - j.d) 0) 1)].getD i undef) (by kernel_rfl) (by kernel_rfl) ⟨hbel.drew, hnew.drew⟩ ?_ ?_
  · intro tm w' hS hsz hlow hval
    have ht : tm = #[.agg #[.int .i64 j.t, .int .i64 j.w, .int .i64 j.r, .int .i64 j.d], .int .i64 x, .pointer (some ⟨b, 0, none⟩), .pointer (some ⟨w.heap.size, 0, none⟩), undef, .int .i64 (j.w * min (max (x - j.d) 0) 1), .pointer (some ⟨w.heap.size, 1, none⟩), .int .i64 j.w, fLate c, .agg #[.int .i64 j.t, .int .i64 j.w, .int .i64 j.r, .int .i64 j.d], .int .i64 x, .int .i64 (min (max (x - j.d) 0) 1), .int .i64 (j.w * min (max (x - j.d) 0) 1)] := by
      refine arr_of _ _ hsz fun t ht => ?_
      have ht' : t < 13 := ht
      rcases (by omega : t = 0 ∨ t = 1 ∨ t = 2 ∨ t = 3 ∨ t = 4 ∨ t = 5 ∨ t = 6 ∨ t = 7 ∨ t = 8 ∨ t = 9 ∨ t = 10 ∨ t = 11 ∨ t = 12) with rfl | rfl | rfl | rfl | rfl | rfl | rfl | rfl | rfl | rfl | rfl | rfl | rfl
      · exact hlow 0 (by kernel_rfl)
      · exact hlow 1 (by kernel_rfl)
      · exact hlow 2 (by kernel_rfl)
      · exact hlow 3 (by kernel_rfl)
      · exact hlow 4 (by kernel_rfl)
      · exact hval 7 _ 5 rfl rfl
      · exact hval 0 _ 6 rfl rfl
      · exact hval 1 _ 7 rfl rfl
      · exact hval 2 _ 8 rfl rfl
      · exact hval 3 _ 9 rfl rfl
      · exact hval 4 _ 10 rfl rfl
      · exact hval 5 _ 11 rfl rfl
      · exact hval 6 _ 12 rfl rfl
    subst ht
    clear hlow hval
    go_wp2
    go_ret
    exact ⟨rfl, hS.1⟩
  · intro a w' i op ho ⟨hb', hJ⟩ hlow hdep _
    have hi : i < 8 := (Array.getElem?_eq_some_iff.1 ho).1
    have l1 := hlow 1 (by kernel_rfl)
    have l2 := hlow 2 (by kernel_rfl)
    have l3 := hlow 3 (by kernel_rfl)
    have hBc := (hB.below hb').cell 0
    have hJ0 := hJ.cell 0
    have hJ1 := hJ.cell 1
    have hJ2 := hJ.cell 2
    have hJ3 := hJ.cell 3
    simp at hBc hJ0 hJ1 hJ2 hJ3
    have l1 : a.tmps[1]?.getD undef = .int .i64 x := by rw [← Array.getD_eq_getD_getElem?]; exact l1
    have l2 : a.tmps[2]?.getD undef = .pointer (some ⟨b, 0, none⟩) := by rw [← Array.getD_eq_getD_getElem?]; exact l2
    have l3 : a.tmps[3]?.getD undef = .pointer (some ⟨w.heap.size, 0, none⟩) := by rw [← Array.getD_eq_getD_getElem?]; exact l3
    have D : ∀ j oj d, edgeB _ i j = true → _ → _ → a.tmps[d]?.getD undef = _ := fun j oj d h1 h2 h3 => (Array.getD_eq_getD_getElem? ..).symm.trans (hdep j oj d h1 h2 h3)
    rcases (by omega : i = 0 ∨ i = 1 ∨ i = 2 ∨ i = 3 ∨ i = 4 ∨ i = 5 ∨ i = 6 ∨ i = 7) with rfl | rfl | rfl | rfl | rfl | rfl | rfl | rfl
    · obtain rfl := Option.some.inj ho
      exact ⟨rfl, .inl ⟨w', by simp [execOp, Act.eval, l3, go_sem], hb', hJ⟩⟩
    · obtain rfl := Option.some.inj ho
      have e : a.tmps[6]?.getD undef = .pointer (some ⟨w.heap.size, 1, none⟩) := D 0 _ 6 (by kernel_rfl) rfl rfl
      exact ⟨rfl, .inl ⟨w', by simp [execOp, Act.eval, e, hJ1, go_sem], hb', hJ⟩⟩
    · obtain rfl := Option.some.inj ho
      exact ⟨rfl, .inl ⟨w', by simp [execOp, Act.eval, l2, hBc, go_sem], hb', hJ⟩⟩
    · obtain rfl := Option.some.inj ho
      exact ⟨rfl, .inl ⟨w', by simp [execOp, Act.eval, l3, hJ0, hJ1, hJ2, hJ3, go_sem], hb', hJ⟩⟩
    · obtain rfl := Option.some.inj ho
      exact ⟨rfl, .inl ⟨w', by simp [execOp, Act.eval, l1, go_sem], hb', hJ⟩⟩
    · obtain rfl := Option.some.inj ho
      have e8 : a.tmps[8]?.getD undef = fLate c := D 2 _ 8 (by kernel_rfl) rfl rfl
      have e9 : a.tmps[9]?.getD undef = .agg #[.int .i64 j.t, .int .i64 j.w, .int .i64 j.r, .int .i64 j.d] := D 3 _ 9 (by kernel_rfl) rfl rfl
      have e10 : a.tmps[10]?.getD undef = .int .i64 x := D 4 _ 10 (by kernel_rfl) rfl rfl
      refine ⟨rfl, .inr ⟨124, #[.agg #[.int .i64 j.t, .int .i64 j.w, .int .i64 j.r, .int .i64 j.d], .int .i64 x, .pointer (some ⟨c, 0, none⟩)], by simp [execOp, Act.eval, e8, e9, e10, go_sem], (late_call j x _ HJ.out h0 h1 c d (hC.below hb') (hD.below hb')).mono ?_⟩⟩
      rintro e w'' ⟨rfl, hb2⟩
      exact ⟨rfl, hb'.trans (hb2.mono hb'.size), hJ.below hb2⟩
    · obtain rfl := Option.some.inj ho
      have e7 : a.tmps[7]?.getD undef = .int .i64 j.w := D 1 _ 7 (by kernel_rfl) rfl rfl
      have e11 : a.tmps[11]?.getD undef = .int .i64 (min (max (x - j.d) 0) 1) := D 5 _ 11 (by kernel_rfl) rfl rfl
      exact ⟨rfl, .inl ⟨w', by simp [execOp, Act.eval, e7, e11, go_sem]; exact IntWalk.i64_in _ (by omega), hb', hJ⟩⟩
    · obtain rfl := Option.some.inj ho
      have e12 : a.tmps[12]?.getD undef = .int .i64 (j.w * min (max (x - j.d) 0) 1) := D 6 _ 12 (by kernel_rfl) rfl rfl
      exact ⟨rfl, .inl ⟨w', by simp [execOp, Act.eval, e12, go_sem], hb', hJ⟩⟩
end
/-- The cost, at each of the functions: one walk that meets the call by this serves them all. -/
theorem cost_call {B : Nat} {w : World} {o : Int} {fv : Value} (h : FnIs B w o fv) : ∃ (f : Nat) (caps : Array Value), fv = .func (.func f) #[] caps ∧ (∀ (args : Array Value) (w1 : World), (callFunc f args).run Try.prog w1 = .ok (.enter f args) w1) ∧
    ∀ (w1 : World) (j : J) (x : Int), (∀ b, b < B → w1.heap[b]? = w.heap[b]?) → okJ j = true → 0 ≤ x → x ≤ 10000 →
      Calls Try.prog f (#[.agg #[.int .i64 j.t, .int .i64 j.w, .int .i64 j.r, .int .i64 j.d], .int .i64 x] ++ caps) w1 fun e w2 => e = .returned (.int .i64 (costOf o j x)) ∧ Below w1.heap.size w1 w2 := by
  have K : ∀ {w1 : World} {b : Nat} {t : TypeId} {cs : Array Value}, (∀ b, b < B → w1.heap[b]? = w.heap[b]?) → b < B → BlockIs w b t cs → BlockIs w1 b t cs := fun hk hb h => (hk _ hb).trans h
  rcases h with ⟨rfl | rfl, rfl⟩ | ⟨rfl, rfl⟩ | ⟨rfl, b, rfl, h2, h3⟩ | ⟨rfl, b, c, rfl, h2, h3, h4, h5⟩ | ⟨rfl, b, rfl, h2, h3⟩ | ⟨rfl, b, c, rfl, h2, h3, h4, h5⟩ | ⟨rfl, b, c, d, rfl, h2, h3, h4, h5, h6, h7⟩
  · exact ⟨_, _, rfl, fun _ _ => by kernel_rfl, fun w1 j x hk hj h0 h1 => end_call j x w1⟩
  · exact ⟨_, _, rfl, fun _ _ => by kernel_rfl, fun w1 j x hk hj h0 h1 => end_call j x w1⟩
  · exact ⟨_, _, rfl, fun _ _ => by kernel_rfl, fun w1 j x hk hj h0 h1 => lat_call j x w1 hj h0 h1⟩
  · exact ⟨_, _, rfl, fun _ _ => by kernel_rfl, fun w1 j x hk hj h0 h1 => tar_call j x w1 hj h0 h1 b (K hk h2 h3)⟩
  · exact ⟨_, _, rfl, fun _ _ => by kernel_rfl, fun w1 j x hk hj h0 h1 => late_call j x w1 hj h0 h1 b c (K hk h2 h3) (K hk h4 h5)⟩
  · exact ⟨_, _, rfl, fun _ _ => by kernel_rfl, fun w1 j x hk hj h0 h1 => wgt_end j x w1 hj h0 h1 b (K hk h2 h3)⟩
  · exact ⟨_, _, rfl, fun _ _ => by kernel_rfl, fun w1 j x hk hj h0 h1 => wgt_tar j x w1 hj h0 h1 b c (K hk h2 h3) (K hk h4 h5)⟩
  · exact ⟨_, _, rfl, fun _ _ => by kernel_rfl, fun w1 j x hk hj h0 h1 => wgt_late j x w1 hj h0 h1 b c d (K hk h2 h3) (K hk h4 h5) (K hk h6 h7)⟩
end Go.Proofs.Ytjemjdlaoebffaa
