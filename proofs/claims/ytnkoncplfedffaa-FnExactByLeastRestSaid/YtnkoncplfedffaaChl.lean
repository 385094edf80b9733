/- The schedules by the rules of choice: the program's. -/
import Derived.Test.YtnkoncplfedffaaSpt
import Derived.Test.YtnkoncplfedffaaRegY
namespace Go.Proofs.Ytnkoncplfedffaa
open Go.RowKit
section
variable (A : Option Addr) (c : Nat) (js : List J) (o : Int) (w : World) (hr : Row w A (jc js)) (hn : js.length ≤ 100000000) (ho : o = 2 ∨ o = 4)
include hr hn ho
set_option maxRecDepth 100000 in
set_option maxHeartbeats 4000000 in
theorem choiceFor_any : Calls Try.prog 53 #[.slice A js.length c, .int .i64 o] w fun e w' => e = .returned (.tuple #[chV o, .bool (goodL js)]) ∧ Below w.heap.size w w' := by
  have hone := fCost_one o
  have hC0 := BlockIs.new w 76 #[.nilFunc, .nilFunc, .bool false]
  have hb0 : Below w.heap.size w (w.alloc (.cells #[.nilFunc, .nilFunc, .bool false] 76)) := (Below.refl _ _).alloc (Nat.le_refl _) _
  have HCH := Lib.hid (choiceOf_any o ho (w.alloc (.cells #[.nilFunc, .nilFunc, .bool false] 76)))
  generalize hfc : fCost o = fv at *
  generalize htp : isTop o = tp at *
  have H0 := Lib.hid (And.intro hC0 hb0)
  clear hC0 hb0
  go_enter Try.func53, Try.ntmps53
  go_wp2_with fail
  refine HCH.out.mono ?_
  rintro e w2 ⟨rfl, hb2⟩
  have HCV : Hid (chV o = .agg #[.func (.func (fRank o)) #[] #[], fv, .bool tp]) := by show _ = _; rw [← hfc, ← htp]
  rw [HCV.out]
  have hbW : Below w2.heap.size w2 (w2.alloc (.cells #[.func (.func (fRank o)) #[] #[], fv, .bool tp] 76)) := (Below.refl _ _).alloc (Nat.le_refl _) _
  have hB4 := BlockIs.new w2 76 #[.func (.func (fRank o)) #[] #[], fv, .bool tp]
  have hC4 := (H0.out.1.below hb2).below hbW
  have hb4 := below_and (below_and H0.out.2 hb2) hbW
  have hne : w.heap.size ≠ w2.heap.size := by have := hb2.size; simp at this; omega
  have s0 := store_at Try.prog (w2.alloc (.cells #[.nilFunc, .nilFunc, .bool false] 76)) ⟨w2.heap.size, 0, none⟩ _ (.func (.func (fRank o)) #[] #[]) rfl ((BlockIs.new w2 76 _).cell 0) ((BlockIs.new w2 76 _).frozen 0)
  have s1 := store_at Try.prog (w2.alloc (.cells #[.func (.func (fRank o)) #[] #[], .nilFunc, .bool false] 76)) ⟨w2.heap.size, 1, none⟩ _ fv hone ((BlockIs.new w2 76 _).cell 1) ((BlockIs.new w2 76 _).frozen 1)
  have HW := Lib.hid (And.intro hB4 (And.intro hC4 hb4))
  have HX := Lib.hid (And.intro hfc (And.intro htp hne))
  clear hbW hB4 hC4 hb4 hfc htp hne hb2 HCH H0
  go_wp2
  obtain ⟨hB4, hC4, hb4⟩ := HW.out
  clear HW s0 s1
  generalize w2.alloc (.cells #[.func (.func (fRank o)) #[] #[], fv, .bool tp] 76) = W at *
  have hne := HX.out.2.2
  refine wp_region_detY (by kernel_rfl) (fun L w' => Below w.heap.size w w' ∧ BlockIs w' w2.heap.size 76 #[.func (.func (fRank o)) #[] #[], fv, .bool tp] ∧ (L.getD 6 true = false → BlockIs w' w.heap.size 76 #[.nilFunc, .nilFunc, .bool false]) ∧ (L.getD 6 true = true → BlockIs w' w.heap.size 76 #[.func (.func (fRank o)) #[] #[], fv, .bool tp])) (fun k => (#[.agg #[.func (.func (fRank o)) #[] #[], fv, .bool tp], .bool true, .bool true, .slice A js.length c, .bool (goodL js), .bool (goodL js), undef, .bool (goodL js)] : Array Value).getD k undef) (by kernel_rfl) (by kernel_rfl) ⟨hb4.drew, hB4.drew, fun _ => hC4.drew, fun h => by cases h⟩ ?_ ?_
  · intro L tm w' hall hS hsz hlow hval
    have ht : tm = #[.slice A js.length c, .int .i64 o, undef, undef, .pointer (some ⟨w.heap.size, 0, none⟩), .bool (goodL js), .pointer (some ⟨w2.heap.size, 0, none⟩), .bool true, .tuple #[.agg #[.func (.func (fRank o)) #[] #[], fv, .bool tp], .bool true], .int .i64 o, .tuple #[.agg #[.func (.func (fRank o)) #[] #[], fv, .bool tp], .bool true], .agg #[.func (.func (fRank o)) #[] #[], fv, .bool tp], .bool true, .agg #[.func (.func (fRank o)) #[] #[], fv, .bool tp], .bool true, .bool true, .slice A js.length c, .bool (goodL js), .bool (goodL js)] := by
      refine arr_of _ _ hsz fun t ht => ?_
      have ht' : t < 19 := ht
      rcases (by omega : t = 0 ∨ t = 1 ∨ t = 2 ∨ t = 3 ∨ t = 4 ∨ t = 5 ∨ t = 6 ∨ t = 7 ∨ t = 8 ∨ t = 9 ∨ t = 10 ∨ t = 11 ∨ t = 12 ∨ t = 13 ∨ t = 14 ∨ t = 15 ∨ t = 16 ∨ t = 17 ∨ t = 18) with rfl | rfl | rfl | rfl | rfl | rfl | rfl | rfl | rfl | rfl | rfl | rfl | rfl | rfl | rfl | rfl | rfl | rfl | rfl
      · exact hlow 0 (by kernel_rfl)
      · exact hlow 1 (by kernel_rfl)
      · exact hlow 2 (by kernel_rfl)
      · exact hlow 3 (by kernel_rfl)
      · exact hlow 4 (by kernel_rfl)
      · exact hval 7 _ 5 rfl rfl
      · exact hlow 6 (by kernel_rfl)
      · exact hlow 7 (by kernel_rfl)
      · exact hlow 8 (by kernel_rfl)
      · exact hlow 9 (by kernel_rfl)
      · exact hlow 10 (by kernel_rfl)
      · exact hlow 11 (by kernel_rfl)
      · exact hlow 12 (by kernel_rfl)
      · exact hval 0 _ 13 rfl rfl
      · exact hval 1 _ 14 rfl rfl
      · exact hval 2 _ 15 rfl rfl
      · exact hval 3 _ 16 rfl rfl
      · exact hval 4 _ 17 rfl rfl
      · exact hval 5 _ 18 rfl rfl
    subst ht
    obtain ⟨hbw, _, _, h6⟩ := hS
    have hC := h6 (hall 6 (by decide))
    clear hlow hval hsz hall
    have q0 := hC.cell 0
    have q1 := hC.cell 1
    have q2 := hC.cell 2
    simp only [List.getElem?_toArray, List.getElem?_cons_zero, List.getElem?_cons_succ] at q0 q1 q2
    go_wp2
    exact bodyPost_ret (v := .tuple #[.agg #[.func (.func (fRank o)) #[] #[], fv, .bool tp], .bool (goodL js)]) (by simp [results, Try.results53, q0, q1, q2, go_sem]) rfl ⟨by rw [HCV.out], hbw⟩
  · intro L a w' k op hLs hop hLi _ _ ⟨hS0, hS1, hS2, hS3⟩ hlow hdep _
    have hk : k < 8 := (Array.getElem?_eq_some_iff.1 hop).1
    have K : ∀ {w1 : World} {k : Nat}, k ≠ 6 → (Below w'.heap.size w' w1) → Below w.heap.size w w1 ∧ BlockIs w1 w2.heap.size 76 #[.func (.func (fRank o)) #[] #[], fv, .bool tp] ∧ ((L.setIfInBounds k true).getD 6 true = false → BlockIs w1 w.heap.size 76 #[.nilFunc, .nilFunc, .bool false]) ∧ ((L.setIfInBounds k true).getD 6 true = true → BlockIs w1 w.heap.size 76 #[.func (.func (fRank o)) #[] #[], fv, .bool tp]) := fun h6 hb => by
      rw [getD_set_true, if_neg (fun h => h6 h.1)]
      exact ⟨below_and hS0 hb, hS1.below hb, fun h => (hS2 h).below hb, fun h => (hS3 h).below hb⟩
    have q0 := hS1.cell 0
    have q1 := hS1.cell 1
    have q2 := hS1.cell 2
    simp only [List.getElem?_toArray, List.getElem?_cons_zero, List.getElem?_cons_succ] at q0 q1 q2
    rcases (by omega : k = 0 ∨ k = 1 ∨ k = 2 ∨ k = 3 ∨ k = 4 ∨ k = 5 ∨ k = 6 ∨ k = 7) with rfl | rfl | rfl | rfl | rfl | rfl | rfl | rfl
    · obtain rfl := Option.some.inj hop
      have e6 : a.tmps[6]?.getD undef = .pointer (some ⟨w2.heap.size, 0, none⟩) := (Array.getD_eq_getD_getElem? ..).symm.trans (hlow 6 (by kernel_rfl))
      exact ⟨wanted_free rfl, .inl (.inl ⟨w', by simp [execOp, Act.eval, e6, q0, q1, q2, go_sem], K (by decide) (Below.refl _ _)⟩)⟩
    · obtain rfl := Option.some.inj hop
      have e7 : a.tmps[7]?.getD undef = .bool true := (Array.getD_eq_getD_getElem? ..).symm.trans (hlow 7 (by kernel_rfl))
      exact ⟨wanted_free rfl, .inl (.inl ⟨w', by simp [execOp, Act.eval, e7, go_sem], K (by decide) (Below.refl _ _)⟩)⟩
    · obtain rfl := Option.some.inj hop
      have e14 : a.tmps[14]?.getD undef = .bool true := (Array.getD_eq_getD_getElem? ..).symm.trans (hdep 1 _ 14 (by kernel_rfl) rfl rfl)
      exact ⟨wanted_free rfl, .inl (.inl ⟨w', by simp [execOp, Act.eval, e14, go_sem], K (by decide) (Below.refl _ _)⟩)⟩
    · obtain rfl := Option.some.inj hop
      have e0 : a.tmps[0]?.getD undef = .slice A js.length c := (Array.getD_eq_getD_getElem? ..).symm.trans (hlow 0 (by kernel_rfl))
      exact ⟨wanted_guard (g := 2) (d := 15) (b := true) rfl rfl rfl (hdep 2 _ 15 (by kernel_rfl) rfl rfl), .inl (.inl ⟨w', by simp [execOp, Act.eval, e0, go_sem], K (by decide) (Below.refl _ _)⟩)⟩
    · obtain rfl := Option.some.inj hop
      have e16 : a.tmps[16]?.getD undef = .slice A js.length c := (Array.getD_eq_getD_getElem? ..).symm.trans (hdep 3 _ 16 (by kernel_rfl) rfl rfl)
      refine ⟨wanted_guard (g := 2) (d := 15) (b := true) rfl rfl rfl (hdep 2 _ 15 (by kernel_rfl) rfl rfl), .inl (.inr ⟨76, #[.slice A js.length c], by simp [execOp, Act.eval, e16, go_sem], (IsJobs_any A c js _ (hr.below hS0) hn).mono ?_⟩)⟩
      rintro e w1 ⟨rfl, hb1⟩
      exact ⟨rfl, K (by decide) hb1⟩
    · obtain rfl := Option.some.inj hop
      have e15 : a.tmps[15]?.getD undef = .bool true := (Array.getD_eq_getD_getElem? ..).symm.trans (hdep 2 _ 15 (by kernel_rfl) rfl rfl)
      have e17 : a.tmps[17]?.getD undef = .bool (goodL js) := (Array.getD_eq_getD_getElem? ..).symm.trans (hdep 4 _ 17 (by kernel_rfl) rfl rfl)
      exact ⟨wanted_free rfl, .inl (.inl ⟨w', by simp [execOp, Act.eval, e15, e17, go_sem], K (by decide) (Below.refl _ _)⟩)⟩
    · obtain rfl := Option.some.inj hop
      have e4 : a.tmps[4]?.getD undef = .pointer (some ⟨w.heap.size, 0, none⟩) := (Array.getD_eq_getD_getElem? ..).symm.trans (hlow 4 (by kernel_rfl))
      have e13 : a.tmps[13]?.getD undef = .agg #[.func (.func (fRank o)) #[] #[], fv, .bool tp] := (Array.getD_eq_getD_getElem? ..).symm.trans (hdep 0 _ 13 (by kernel_rfl) rfl rfl)
      have hC := hS2 hLi
      have s0 := store_at Try.prog w' ⟨w.heap.size, 0, none⟩ _ (.func (.func (fRank o)) #[] #[]) rfl (hC.cell 0) (hC.frozen 0)
      have hD := hC.set 0 (.func (.func (fRank o)) #[] #[])
      have s1 := store_at Try.prog _ ⟨w.heap.size, 1, none⟩ _ fv hone (hD.cell 1) (hD.frozen 1)
      have hE := hD.set 1 fv
      have c2 := hE.cell 2
      have f2 := hE.frozen 2
      have hF := hE.set 2 (.bool tp)
      have hG := ((hS1.other (a := ⟨w.heap.size, 0, none⟩) (Ne.symm hne) (.func (.func (fRank o)) #[] #[])).other (a := ⟨w.heap.size, 1, none⟩) (Ne.symm hne) fv).other (a := ⟨w.heap.size, 2, none⟩) (Ne.symm hne) (.bool tp)
      refine ⟨wanted_free rfl, .inr ⟨_, rfl, by simp [execOp, Act.eval, e4, e13, s0, s1, c2, f2, go_sem], ((hS0.setCell (p := ⟨w.heap.size, 0, none⟩) (Nat.le_refl _) (.func (.func (fRank o)) #[] #[])).setCell (p := ⟨w.heap.size, 1, none⟩) (Nat.le_refl _) fv).setCell (p := ⟨w.heap.size, 2, none⟩) (Nat.le_refl _) (.bool tp), hG, fun h => ?_, fun _ => hF⟩⟩
      rw [getD_set_true, if_pos ⟨rfl, by rw [hLs]; decide⟩] at h; cases h
    · obtain rfl := Option.some.inj hop
      have e18 : a.tmps[18]?.getD undef = .bool (goodL js) := (Array.getD_eq_getD_getElem? ..).symm.trans (hdep 5 _ 18 (by kernel_rfl) rfl rfl)
      exact ⟨wanted_free rfl, .inl (.inl ⟨w', by simp [execOp, Act.eval, e18, go_sem], K (by decide) (Below.refl _ _)⟩)⟩
set_option maxRecDepth 100000 in
set_option maxHeartbeats 4000000 in
theorem splitBy_any : Calls Try.prog 48 #[.slice A js.length c, .int .i64 o] w (RetTB w (chR js o)) := by
  have hone := fCost_one o
  have HR : Hid (chR js o = if goodL js then (chL js o, true) else ([], false)) := rfl
  have HCH := Lib.hid (choiceFor_any A c js o w hr hn ho)
  have HS : Hid (∀ fv tp w', goodL js = true → Row w' A (jc js) → _) := fun fv tp w' hg h => split_any A c js o fv tp w' h hg
  generalize hfc : fCost o = fv at *
  generalize htp : isTop o = tp at *
  have HCV : Hid (chV o = .agg #[.func (.func (fRank o)) #[] #[], fv, .bool tp]) := by show _ = _; rw [← hfc, ← htp]
  have HX := Lib.hid (And.intro hfc htp)
  clear hfc htp
  have HRW := Lib.hid hr
  clear hr
  cases hg : goodL js
  · have HR2 : Hid (chR js o = ([], false)) := by show _ = _; rw [HR.out, hg]; rfl
    go_enter Try.func48, Try.ntmps48
    go_wp2_with fail
    refine HCH.out.mono ?_
    rintro e w2 ⟨rfl, hb2⟩
    rw [HCV.out, hg]
    have hbW : Below w2.heap.size w2 (w2.alloc (.cells #[.func (.func (fRank o)) #[] #[], fv, .bool tp] 76)) := (Below.refl _ _).alloc (Nat.le_refl _) _
    have s0 := store_at Try.prog (w2.alloc (.cells #[.nilFunc, .nilFunc, .bool false] 76)) ⟨w2.heap.size, 0, none⟩ _ (.func (.func (fRank o)) #[] #[]) rfl ((BlockIs.new w2 76 _).cell 0) ((BlockIs.new w2 76 _).frozen 0)
    have s1 := store_at Try.prog (w2.alloc (.cells #[.func (.func (fRank o)) #[] #[], .nilFunc, .bool false] 76)) ⟨w2.heap.size, 1, none⟩ _ fv hone ((BlockIs.new w2 76 _).cell 1) ((BlockIs.new w2 76 _).frozen 1)
    have HW := Lib.hid (below_and hb2 hbW)
    clear hbW hb2 HCH
    go_wp2
    go_ret2
    exact ret_emptyT HR2.out HW.out _ (by rw [World.size_alloc]; rfl)
  · have HR2 : Hid (chR js o = (chL js o, true)) := by show _ = _; rw [HR.out, hg]; rfl
    go_enter Try.func48, Try.ntmps48
    go_wp2_with fail
    refine HCH.out.mono ?_
    rintro e w2 ⟨rfl, hb2⟩
    rw [HCV.out, hg]
    have hbW : Below w2.heap.size w2 (w2.alloc (.cells #[.func (.func (fRank o)) #[] #[], fv, .bool tp] 76)) := (Below.refl _ _).alloc (Nat.le_refl _) _
    have s0 := store_at Try.prog (w2.alloc (.cells #[.nilFunc, .nilFunc, .bool false] 76)) ⟨w2.heap.size, 0, none⟩ _ (.func (.func (fRank o)) #[] #[]) rfl ((BlockIs.new w2 76 _).cell 0) ((BlockIs.new w2 76 _).frozen 0)
    have s1 := store_at Try.prog (w2.alloc (.cells #[.func (.func (fRank o)) #[] #[], .nilFunc, .bool false] 76)) ⟨w2.heap.size, 1, none⟩ _ fv hone ((BlockIs.new w2 76 _).cell 1) ((BlockIs.new w2 76 _).frozen 1)
    have HW := Lib.hid (below_and hb2 hbW)
    clear hbW hb2 HCH
    have HG := Lib.hid (HS.out fv tp _ hg (HRW.out.below HW.out))
    clear HS hg
    go_wp2_with fail
    refine HG.out.mono ?_
    rintro e w3 ⟨v, rfl, hown, hb3⟩
    have HX := Lib.hid (And.intro (own_upC hown HW.out.size) (below_and HW.out hb3))
    clear hown hb3 HG
    go_wp2
    go_ret2
    exact ret_ownT HR2.out rfl HX.out.1 HX.out.2 _ rfl
end
def chR2 (js : List J) : List Sp × Bool := chR js 2
def chR4 (js : List J) : List Sp × Bool := chR js 4
theorem chR2_len (js : List J) : (chR2 js).1.length ≤ 900 := chR_len js 2
theorem chR4_len (js : List J) : (chR4 js).1.length ≤ 900 := chR_len js 4
section
variable (A : Option Addr) (c : Nat) (js : List J) (w : World) (hr : Row w A (jc js)) (hn : js.length ≤ 10000000)
include hr hn
theorem spec_ByLeastR : Calls Try.prog 20 #[.slice A js.length c] w (RetTB w (chR2 js)) := spec_ByLeastRest A c js w hr hn
theorem spec_ByEarliestD : Calls Try.prog 26 #[.slice A js.length c] w (RetTB w (chR4 js)) := spec_ByEarliestDate A c js w hr hn
set_option maxRecDepth 100000 in
theorem impl_ByLeastRest : Calls Try.prog 21 #[.slice A js.length c] w (RetTB w (chR2 js)) := by
  go_enter Try.func21, Try.ntmps21
  go_wp2_with fail
  refine (splitBy_any A c js 2 w hr (by omega) (.inl rfl)).mono ?_
  rintro e w1 ⟨B, d, rfl, hs, hb⟩
  have HS : Hid (Seg w1 67 3 w.heap.size w1.heap.size B (chR2 js).1.length d (spc (chR2 js).1)) := hs
  rw [show chR js 2 = chR2 js from rfl]
  clear hs
  go_wp2
  go_ret2
  exact ⟨B, d, rfl, HS.out, hb⟩
set_option maxRecDepth 100000 in
theorem impl_ByEarliestDate : Calls Try.prog 27 #[.slice A js.length c] w (RetTB w (chR4 js)) := by
  go_enter Try.func27, Try.ntmps27
  go_wp2_with fail
  refine (splitBy_any A c js 4 w hr (by omega) (.inr rfl)).mono ?_
  rintro e w1 ⟨B, d, rfl, hs, hb⟩
  have HS : Hid (Seg w1 67 3 w.heap.size w1.heap.size B (chR4 js).1.length d (spc (chR4 js).1)) := hs
  rw [show chR js 4 = chR4 js from rfl]
  clear hs
  go_wp2
  go_ret2
  exact ⟨B, d, rfl, HS.out, hb⟩
end
end Go.Proofs.Ytnkoncplfedffaa
