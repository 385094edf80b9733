/- SplitValue of both. -/
import Derived.Test.YtpjjjbkjkhcbdaaSpe
import Derived.Test.YtpjjjbkjkhcbdaaValF
import Derived.Test.YtpjjjbkjkhcbdaaValS
namespace Go.Proofs.Ytpjjjbkjkhcbdaa
open Go.RowKit
def spValR (js : List J) (ss : List Sp) (ob : Int) : Int × Bool := if spBothB js ss && isObj ob then (valOf ob js (spEndsL js ss), true) else (0, false)
section
variable (A B : Option Addr) (c d : Nat) (js : List J) (ss : List Sp) (ob : Int) (w : World) (hr : Row w A (jc js)) (hq : Row w B (spc ss))
include hr hq
variable (hn : js.length ≤ 10000000) (hm : ss.length ≤ 10000000)
include hn hm
set_option maxRecDepth 100000 in
set_option maxHeartbeats 4000000 in
theorem impl_SplitValue : Calls Try.prog 33 #[.slice A js.length c, .slice B ss.length d, .int .i64 ob] w (RetNB w (spValR js ss ob)) := by
  have HR : Hid (spValR js ss ob = if spBothB js ss && isObj ob then (valOf ob js (spEndsL js ss), true) else (0, false)) := rfl
  go_enter Try.func33, Try.ntmps33
  go_wp2_with fail
  refine (measureOf_any ob w).mono ?_
  rintro e w1 ⟨hb1, ⟨ho, rfl⟩ | ⟨ho, fv, rfl, hF⟩⟩
  · rw [ho, Bool.and_false] at HR
    have hst := store_pair Try.prog w1 .nilFunc .nilFunc (.bool false) 80 rfl
    go_wp2
    go_ret2
    exact ⟨by rw [HR.out]; rfl, hb1.alloc hb1.size _⟩
  · obtain ⟨f, caps, rfl, _, _⟩ := cost_call hF
    have hst := store_pair Try.prog w1 (.func (.func f) #[] caps) .nilFunc (.bool false) 80 rfl
    have hM0 := BlockIs.new w1 80 #[.func (.func f) #[] caps, .bool (isTop ob)]
    have hb0 := hb1.alloc hb1.size (.cells #[.func (.func f) #[] caps, .bool (isTop ob)] 80)
    have hF0 := hF.keep (w' := w1.alloc (.cells #[.func (.func f) #[] caps, .bool (isTop ob)] 80)) (fun b hb => ((Below.refl w1.heap.size w1).alloc (Nat.le_refl _) _).block b hb)
    generalize htp : isTop ob = tp at *
    have HX := Lib.hid (And.intro hM0 (And.intro hb0 hF0))
    clear hM0 hb0 hF0 hF
    go_wp2_with fail
    obtain ⟨hM0, hb0, hF0⟩ := HX.out
    refine (isSplit_any A B c d js ss _ (hr.below hb0) (hq.below hb0) hn hm).mono ?_
    rintro e w2 ⟨rfl, hb2⟩
    cases ht : spBothB js ss
    · rw [ht] at HR
      clear hM0 hb0 hF0 hst
      go_wp2
      go_ret2
      exact ⟨by rw [HR.out]; rfl, HX.out.2.1.trans (hb2.mono HX.out.2.1.size)⟩
    · rw [ht, ho] at HR
      have hMM := hM0.below hb2
      have hFF := hF0.keep (w' := w2) (fun b hb => hb2.block b (by simp; omega))
      have hbb := hb0.trans (hb2.mono hb0.size)
      have hlt1 : w1.heap.size ≤ w2.heap.size := Nat.le_trans (by simp) hb2.size
      have HY := Lib.hid (And.intro hMM (And.intro hFF hbb))
      clear hM0 hb0 hF0 hst HX hb2 hMM hFF hbb
      go_wp2
      obtain ⟨hMM, hFF, hbb⟩ := HY.out
      have HL := spEndsL_len js ss
      have hbd := spEndsL_bd (spBoth_out ht).2
      have hg := (spBoth_out ht).1
      have HVF : ∀ w3 : World, Below w2.heap.size w2 w3 → BlockIs w3 w2.heap.size 3 (ic (spEndsL js ss)).toArray → Calls Try.prog 75 #[.agg #[.func (.func f) #[] caps, .bool tp], .slice A js.length c, .slice (some ⟨w2.heap.size, 0, none⟩) js.length js.length] w3 fun e w' => e = .returned (.int .i64 (valOf ob js (spEndsL js ss))) ∧ Below w3.heap.size w3 w' := fun w3 hb3 hB3 => by
        have := valueFor_any (w := w3) (hFF.keep (fun b hb => hb3.block b (by omega))) (by have := hb3.size; omega) ho A (some ⟨w2.heap.size, 0, none⟩) c js.length js (spEndsL js ss) ((hr.below hbb).below hb3) (seg_of_block hB3 (Nat.zero_le _) (by rw [HL]; unfold maxLen; have := (good_out hg).1; omega)).row hg HL hbd
        rw [htp] at this
        exact this
      refine wp_region_detL (by kernel_rfl) (fun L w' => Below w2.heap.size w2 w' ∧ (L.getD 4 true = false → w'.heap.size = w2.heap.size) ∧ (L.getD 4 true = true → BlockIs w' w2.heap.size 3 (ic (spEndsL js ss)).toArray))
        (fun i => #[.agg #[.func (.func f) #[] caps, .bool tp], .slice A js.length c, .slice A js.length c, .slice B ss.length d, .slice (some ⟨w2.heap.size, 0, none⟩) js.length js.length, .int .i64 (valOf ob js (spEndsL js ss)), .int .i64 (valOf ob js (spEndsL js ss)), .bool true].getD i undef) (by kernel_rfl) (by kernel_rfl) ⟨(Below.refl _ _).drew, fun _ => rfl, fun h => by cases h⟩ ?_ ?_
      · intro L tm w' hall hS hsz hlow hval
        have ht : tm = #[.slice A js.length c, .slice B ss.length d, .int .i64 ob, undef, undef, undef, .int .i64 (valOf ob js (spEndsL js ss)), .bool true, .pointer (some ⟨w1.heap.size, 0, none⟩), .bool true, .tuple #[.agg #[.func (.func f) #[] caps, .bool tp], .bool true], .int .i64 ob, .tuple #[.agg #[.func (.func f) #[] caps, .bool tp], .bool true], .agg #[.func (.func f) #[] caps, .bool tp], .bool true, .bool true, .bool false, .bool false, .slice A js.length c, .slice B ss.length d, .bool true, .bool false, .bool false, .agg #[.func (.func f) #[] caps, .bool tp], .slice A js.length c, .slice A js.length c, .slice B ss.length d, .slice (some ⟨w2.heap.size, 0, none⟩) js.length js.length, .int .i64 (valOf ob js (spEndsL js ss))] := by
          refine arr_of _ _ hsz fun t ht => ?_
          have ht' : t < 29 := ht
          rcases (by omega : t = 0 ∨ t = 1 ∨ t = 2 ∨ t = 3 ∨ t = 4 ∨ t = 5 ∨ t = 6 ∨ t = 7 ∨ t = 8 ∨ t = 9 ∨ t = 10 ∨ t = 11 ∨ t = 12 ∨ t = 13 ∨ t = 14 ∨ t = 15 ∨ t = 16 ∨ t = 17 ∨ t = 18 ∨ t = 19 ∨ t = 20 ∨ t = 21 ∨ t = 22 ∨ t = 23 ∨ t = 24 ∨ t = 25 ∨ t = 26 ∨ t = 27 ∨ t = 28) with rfl | rfl | rfl | rfl | rfl | rfl | rfl | rfl | rfl | rfl | rfl | rfl | rfl | rfl | rfl | rfl | rfl | rfl | rfl | rfl | rfl | rfl | rfl | rfl | rfl | rfl | rfl | rfl | rfl
          · exact hlow 0 (by kernel_rfl)
          · exact hlow 1 (by kernel_rfl)
          · exact hlow 2 (by kernel_rfl)
          · exact hlow 3 (by kernel_rfl)
          · exact hlow 4 (by kernel_rfl)
          · exact hlow 5 (by kernel_rfl)
          · exact hval 6 _ 6 rfl rfl
          · exact hval 7 _ 7 rfl rfl
          · exact hlow 8 (by kernel_rfl)
          · exact hlow 9 (by kernel_rfl)
          · exact hlow 10 (by kernel_rfl)
          · exact hlow 11 (by kernel_rfl)
          · exact hlow 12 (by kernel_rfl)
          · exact hlow 13 (by kernel_rfl)
          · exact hlow 14 (by kernel_rfl)
          · exact hlow 15 (by kernel_rfl)
          · exact hlow 16 (by kernel_rfl)
          · exact hlow 17 (by kernel_rfl)
          · exact hlow 18 (by kernel_rfl)
          · exact hlow 19 (by kernel_rfl)
          · exact hlow 20 (by kernel_rfl)
          · exact hlow 21 (by kernel_rfl)
          · exact hlow 22 (by kernel_rfl)
          · exact hval 0 _ 23 rfl rfl
          · exact hval 1 _ 24 rfl rfl
          · exact hval 2 _ 25 rfl rfl
          · exact hval 3 _ 26 rfl rfl
          · exact hval 4 _ 27 rfl rfl
          · exact hval 5 _ 28 rfl rfl
        subst ht
        clear hlow hval hsz
        go_wp2
        go_ret2
        exact ⟨by rw [HR.out]; rfl, HY.out.2.2.trans (hS.1.mono HY.out.2.2.size)⟩
      · intro L a w' i op hLs ho hLi hLd hLn ⟨hS0, hS1, hS2⟩ hlow hdep hold
        have hi : i < 8 := (Array.getElem?_eq_some_iff.1 ho).1
        have l0 : a.tmps[0]?.getD undef = .slice A js.length c := by rw [← Array.getD_eq_getD_getElem?]; exact hlow 0 (by kernel_rfl)
        have l1 : a.tmps[1]?.getD undef = .slice B ss.length d := by rw [← Array.getD_eq_getD_getElem?]; exact hlow 1 (by kernel_rfl)
        have l8 : a.tmps[8]?.getD undef = .pointer (some ⟨w1.heap.size, 0, none⟩) := by rw [← Array.getD_eq_getD_getElem?]; exact hlow 8 (by kernel_rfl)
        have D : ∀ j oj d, edgeB _ i j = true → _ → _ → a.tmps[d]?.getD undef = _ := fun j oj d h1 h2 h3 => (Array.getD_eq_getD_getElem? ..).symm.trans (hdep j oj d h1 h2 h3)
        have K : ∀ {i : Nat}, i ≠ 4 → Below w2.heap.size w2 w' ∧ ((L.setIfInBounds i true).getD 4 true = false → w'.heap.size = w2.heap.size) ∧ ((L.setIfInBounds i true).getD 4 true = true → BlockIs w' w2.heap.size 3 (ic (spEndsL js ss)).toArray) := fun hne => ⟨hS0, by rw [set_ne hne]; exact hS1, by rw [set_ne hne]; exact hS2⟩
        have hc0 := (hMM.below hS0).cell 0
        have hc1 := (hMM.below hS0).cell 1
        simp at hc0 hc1
        rcases (by omega : i = 0 ∨ i = 1 ∨ i = 2 ∨ i = 3 ∨ i = 4 ∨ i = 5 ∨ i = 6 ∨ i = 7) with rfl | rfl | rfl | rfl | rfl | rfl | rfl | rfl
        · obtain rfl := Option.some.inj ho
          exact ⟨rfl, .inl ⟨w', by simp [execOp, Act.eval, l8, hc0, hc1, go_sem], K (by decide)⟩⟩
        · obtain rfl := Option.some.inj ho
          exact ⟨rfl, .inl ⟨w', by simp [execOp, Act.eval, l0, go_sem], K (by decide)⟩⟩
        · obtain rfl := Option.some.inj ho
          exact ⟨rfl, .inl ⟨w', by simp [execOp, Act.eval, l0, go_sem], K (by decide)⟩⟩
        · obtain rfl := Option.some.inj ho
          exact ⟨rfl, .inl ⟨w', by simp [execOp, Act.eval, l1, go_sem], K (by decide)⟩⟩
        · obtain rfl := Option.some.inj ho
          have e25 : a.tmps[25]?.getD undef = .slice A js.length c := D 2 _ 25 (by kernel_rfl) rfl rfl
          have e26 : a.tmps[26]?.getD undef = .slice B ss.length d := D 3 _ 26 (by kernel_rfl) rfl rfl
          refine ⟨rfl, .inr ⟨71, #[.slice A js.length c, .slice B ss.length d], by simp [execOp, Act.eval, e25, e26, go_sem], (endsOfSpans_at A B c d js ss w' ((hq.below hbb).below hS0) (spBoth_out ht).1 (spBoth_out ht).2).mono ?_⟩⟩
          rintro e w'' ⟨rfl, hB3, hb3⟩
          rw [hS1 hLi] at hB3 ⊢
          exact ⟨rfl, hS0.trans (hb3.mono hS0.size), (fun h => by rw [set_eq (by rw [hLs]; decide)] at h; cases h), fun _ => hB3⟩
        · obtain rfl := Option.some.inj ho
          have e23 : a.tmps[23]?.getD undef = .agg #[.func (.func f) #[] caps, .bool tp] := D 0 _ 23 (by kernel_rfl) rfl rfl
          have e24 : a.tmps[24]?.getD undef = .slice A js.length c := D 1 _ 24 (by kernel_rfl) rfl rfl
          have e27 : a.tmps[27]?.getD undef = .slice (some ⟨w2.heap.size, 0, none⟩) js.length js.length := D 4 _ 27 (by kernel_rfl) rfl rfl
          refine ⟨rfl, .inr ⟨75, #[.agg #[.func (.func f) #[] caps, .bool tp], .slice A js.length c, .slice (some ⟨w2.heap.size, 0, none⟩) js.length js.length], by simp [execOp, Act.eval, e23, e24, e27, go_sem], (HVF w' hS0 (hS2 (hLd 4 (by kernel_rfl)))).mono ?_⟩⟩
          rintro e w'' ⟨rfl, hb3⟩
          exact ⟨rfl, hS0.trans (hb3.mono hS0.size), (fun h => by rw [set_ne (by decide)] at h; rw [hLd 4 (by kernel_rfl)] at h; cases h), fun _ => (hS2 (hLd 4 (by kernel_rfl))).below hb3⟩
        · obtain rfl := Option.some.inj ho
          have e28 : a.tmps[28]?.getD undef = .int .i64 (valOf ob js (spEndsL js ss)) := D 5 _ 28 (by kernel_rfl) rfl rfl
          exact ⟨rfl, .inl ⟨w', by simp [execOp, Act.eval, e28, go_sem], K (by decide)⟩⟩
        · obtain rfl := Option.some.inj ho
          exact ⟨rfl, .inl ⟨w', by simp [execOp, go_sem], K (by decide)⟩⟩
theorem spec_SplitValue : Calls Try.prog 32 #[.slice A js.length c, .slice B ss.length d, .int .i64 ob] w (RetNB w (spValR js ss ob)) := by
  have HR : Hid (spValR js ss ob = if spBothB js ss && isObj ob then (valOf ob js (spEndsL js ss), true) else (0, false)) := rfl
  cases ht : spBothB js ss
  · rw [ht] at HR
    go_enter Try.func32, Try.ntmps32
    go_wp2_with fail
    refine (l5Both_any A B c d js ss _ hr hq hn hm).mono ?_
    rintro e w1 ⟨rfl, hb1⟩
    rw [ht]
    go_wp2
    go_ret2
    exact ⟨by rw [HR.out]; rfl, hb1⟩
  · cases ho : isObj ob
    · rw [ht, ho] at HR
      go_enter Try.func32, Try.ntmps32
      go_wp2_with fail
      refine (l5Both_any A B c d js ss _ hr hq hn hm).mono ?_
      rintro e w1 ⟨rfl, hb1⟩
      rw [ht]
      go_wp2_with fail
      refine (l2Objective_any ob _).mono ?_
      rintro e _ ⟨rfl, rfl⟩
      rw [ho]
      go_wp2
      go_ret2
      exact ⟨by rw [HR.out]; rfl, hb1⟩
    · rw [ht, ho] at HR
      have HL := Lib.hid (spEndsL_len js ss)
      have hbd := Lib.hid (spEndsL_bd (spBoth_out ht).2)
      have h8 := (good_out (spBoth_out ht).1).1
      go_enter Try.func32, Try.ntmps32
      go_wp2_with fail
      refine (l5Both_any A B c d js ss _ hr hq hn hm).mono ?_
      rintro e w1 ⟨rfl, hb1⟩
      rw [ht]
      go_wp2_with fail
      refine (l2Objective_any ob _).mono ?_
      rintro e _ ⟨rfl, rfl⟩
      rw [ho]
      go_wp2_with fail
      refine (l5Ends_at A B c d js ss _ (hq.below hb1) (spBoth_out ht).1 (spBoth_out ht).2).mono ?_
      rintro e w2 ⟨rfl, hB2, hb2⟩
      have HB := Lib.hid (below_and hb1 hb2)
      have HQ := Lib.hid (seg_of_block hB2 (Nat.zero_le _) (by rw [HL.out]; unfold maxLen; omega)).row
      clear hB2 hb1 hb2
      go_wp2_with fail
      refine (l2Of_any A (some ⟨w1.heap.size, 0, none⟩) c js.length js (spEndsL js ss) ob _ (hr.below HB.out) HQ.out (spBoth_out ht).1 HL.out hbd.out ho).mono ?_
      rintro e w3 ⟨rfl, hb3⟩
      go_wp2
      go_ret2
      exact ⟨by rw [HR.out]; rfl, below_and HB.out hb3⟩
end
end Go.Proofs.Ytpjjjbkjkhcbdaa
