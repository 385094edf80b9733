/- IsSelection of the program and of the model agree at all job shops and lists of lists, the arguments are left as they were, and the law's function returns true. No condition. -/
import Derived.Test.YteidhjmnononaaaRows
import Derived.Test.YteidhjmnononaaaBase
import Derived.Test.YteidhjmnononaaaFacts
import Derived.Test.YteidhjmnononaaaArgV
import Derived.Test.YteidhjmnononaaaJwN
import Derived.WalkKit
import Derived.ProofKit
import Derived.HandedShaped
import Derived.OpenShut
import Derived.ShutString
namespace Go.Proofs.Yteidhjmnononaaa.fnExactIsSelection
open Go.ChangeShapes Go.WideShapes Go.ChangeAt Go.RowKit Go.WideMaps Go.WideElems
open Go.ChangeMaps (open_string shut_string)
set_option linter.unusedVariables false

theorem own : ownKnob Try.prog.godebug = none := by kernel_rfl
theorem laidOut : laidOutB Try.prog = true := fact_laid
theorem closed : joinedFacts Try.prog 3 Try.f3 Rows.fnExactIsSelectionSpec Rows.fnExactIsSelectionRow = true := by
  unfold joinedFacts
  exact (and_t (and_t (and_t (and_t (and_t (and_t (and_t (and_t (and_t (and_t (and_t (and_t (and_t (and_t (and_t (and_t (and_t (and_t (and_t (and_t (and_t (and_t (and_t (and_t (and_t (and_t (and_t (and_t (and_t (and_t (and_t (by kernel_rfl) fact_laid) fact_maps) (by kernel_rfl)) (by kernel_rfl)) (by kernel_rfl)) (by kernel_rfl)) (by kernel_rfl)) (by kernel_rfl)) (by kernel_rfl)) (by kernel_rfl)) (by kernel_rfl)) (by kernel_rfl)) (by kernel_rfl)) (by kernel_rfl)) (by kernel_rfl)) (by kernel_rfl)) (by kernel_rfl)) (by kernel_rfl)) (by kernel_rfl)) (by kernel_rfl)) (by kernel_rfl)) (by kernel_rfl)) (by kernel_rfl)) fact_heard) fact_enter) fact_lifts) fact_make) (by kernel_rfl)) (by kernel_rfl)) (by kernel_rfl)) (by kernel_rfl))



set_option maxRecDepth 100000 in
set_option maxHeartbeats 4000000 in
/-- THE WALK: the law's function returns true and leaves what was there as it was. -/
theorem walk (m0 : Int) (a0 : Option Addr) (l0 c0 : Nat) (z0 : List (List Pr)) (a1 : Option Addr) (l1 c1 : Nat) (z1 : List (List Int)) (w : World) (w0 : IsShopA w m0 a0 l0 c0 z0) (w1 : IsSSA w a1 l1 c1 z1)  :
    Calls Try.prog 3 #[.agg #[.int .i64 m0, .slice a0 l0 c0], .slice a1 l1 c1] w fun e w' => e = .returned (.bool true) ∧ Below w.heap.size w w' := by
  obtain ⟨wm0, rfl, hlc0, hcm0, hr0, hw0⟩ := w0
  have hm0 : z0.length ≤ maxLen := by omega
  have HR0 := Lib.hid hr0
  have HW0 := Lib.hid (fun xs hx => (hw0 xs hx).1)
  clear hr0 hw0
  obtain ⟨rfl, hlc1, hcm1, hr1, hw1⟩ := w1
  have hm1 : z1.length ≤ maxLen := by omega
  have HR1 := Lib.hid hr1
  have HW1 := Lib.hid hw1
  clear hr1 hw1
  have hbw := (Below.refl w.heap.size w).alloc (Nat.le_refl _) (.cells #[.int .i64 m0, .slice a0 z0.length c0] 24)
  have BX := Lib.hid (BlockIs.new w 24 #[.int .i64 m0, .slice a0 z0.length c0])
  have HBS := Lib.hid (Below.refl (w.alloc (.cells #[.int .i64 m0, .slice a0 z0.length c0] 24)).heap.size (w.alloc (.cells #[.int .i64 m0, .slice a0 z0.length c0] 24)))
  have HR0 := Lib.hid (HR0.out.below hbw)
  have HR1 := Lib.hid (HR1.out.below hbw)
  have HBW := Lib.hid hbw
  clear hbw
  go_enter Try.func3, Try.ntmps3
  have bxa := (BX.out.below HBS.out).cell 0
  have bxb := (BX.out.below HBS.out).cell 1
  simp only [List.getElem?_toArray, List.getElem?_cons_zero, List.getElem?_cons_succ] at bxa bxb
  go_wp2_with fail
  refine (szJobShop_any m0 a0 _ c0 z0 1048576 _ rfl HR0.out hm0 HW0.out (by omega) (by omega)).mono ?_
  rintro e v0 ⟨⟨q0, rfl, hq0, hn0⟩ | rfl, hb0⟩
  · skip
    clear bxa bxb
    have HB0 := Lib.hid hb0
    have hz0 := hb0.size
    clear hb0 HBS
    go_wp2_with fail
    refine (szIntSS_any a1 _ c1 z1 _ _ rfl (HR1.out.below HB0.out) hm1 HW1.out (by omega) (by omega)).mono ?_
    rintro e _ ⟨⟨q1, rfl, hq1, hn1⟩ | rfl, rfl⟩
    · skip
      have hM1 : (List.map ic z1).length ≤ 1048576 ∧ totC (List.map ic z1) ≤ 1048576 := by rw [totC_ic, List.length_map]; omega
      have bxa := (BX.out.below HB0.out).cell 0
      have bxb := (BX.out.below HB0.out).cell 1
      simp only [List.getElem?_toArray, List.getElem?_cons_zero, List.getElem?_cons_succ] at bxa bxb
      go_wp2_with fail
      refine (toJobShop_seg m0 _ _ _ z0 _ rfl (HR0.out.below HB0.out) (by omega) (by omega)).mono ?_
      rintro e v1 ⟨g1, rfl, hs1, hb1⟩
      clear bxa bxb
      have HB1 := Lib.hid (HB0.out.trans (hb1.mono HB0.out.size))
      have hz1 := hb1.size
      clear HB0 hb1
      have S_t0 := Lib.hid hs1
      clear hs1
      have bxa := (BX.out.below HB1.out).cell 0
      have bxb := (BX.out.below HB1.out).cell 1
      simp only [List.getElem?_toArray, List.getElem?_cons_zero, List.getElem?_cons_succ] at bxa bxb
      go_wp2_with fail
      refine (toIntSS_seg _ _ _ z1 _ rfl (HR1.out.below HB1.out) (by omega) (by omega)).mono ?_
      rintro e v2 ⟨g2, rfl, hs2, hb2⟩
      clear bxa bxb
      have HB2 := Lib.hid (HB1.out.trans (hb2.mono HB1.out.size))
      have hz2 := hb2.size
      have S_t0_2 := Lib.hid (S_t0.out.below hb2)
      clear HB1 S_t0 hb2
      have S_t1 := Lib.hid hs2
      clear hs2
      have bxa := (BX.out.below HB2.out).cell 0
      have bxb := (BX.out.below HB2.out).cell 1
      simp only [List.getElem?_toArray, List.getElem?_cons_zero, List.getElem?_cons_succ] at bxa bxb
      go_wp2_with fail
      refine (spec_IsSelection _ _ _ _ m0 z0 z1 _ S_t0_2.out.row S_t1.out.row ⟨by omega, by omega⟩ (by omega) (totL_each (by omega))).mono ?_
      rintro e v3 ⟨rfl, hb3⟩
      clear bxa bxb
      clear S_t0_2
      clear S_t1
      have HB3 := Lib.hid (HB2.out.trans (hb3.mono HB2.out.size))
      have hz3 := hb3.size
      clear HB2 hb3
      have bxa := (BX.out.below HB3.out).cell 0
      have bxb := (BX.out.below HB3.out).cell 1
      simp only [List.getElem?_toArray, List.getElem?_cons_zero, List.getElem?_cons_succ] at bxa bxb
      go_wp2_with fail
      refine (toJobShop_seg m0 _ _ _ z0 _ rfl (HR0.out.below HB3.out) (by omega) (by omega)).mono ?_
      rintro e v4 ⟨g4, rfl, hs4, hb4⟩
      clear bxa bxb
      have HB4 := Lib.hid (HB3.out.trans (hb4.mono HB3.out.size))
      have hz4 := hb4.size
      clear HB3 hb4
      have S_x0 := Lib.hid hs4
      clear hs4
      have hbx5 := (Below.refl v4.heap.size v4).alloc (Nat.le_refl _) (.cells #[.int .i64 m0, .slice (some ⟨g4, 0, none⟩) z0.length z0.length] 32)
      have XB := Lib.hid (BlockIs.new v4 32 #[.int .i64 m0, .slice (some ⟨g4, 0, none⟩) z0.length z0.length])
      have hzs5 : v4.heap.size < (v4.alloc (.cells #[.int .i64 m0, .slice (some ⟨g4, 0, none⟩) z0.length z0.length] 32)).heap.size := by simp
      have HB5 := Lib.hid (HB4.out.trans (hbx5.mono HB4.out.size))
      have hz5 := hbx5.size
      have S_x0_5 := Lib.hid (S_x0.out.below hbx5)
      clear HB4 S_x0 hbx5
      have bxa := (BX.out.below HB5.out).cell 0
      have bxb := (BX.out.below HB5.out).cell 1
      have xba := XB.out.cell 0
      have xbb := XB.out.cell 1
      simp only [List.getElem?_toArray, List.getElem?_cons_zero, List.getElem?_cons_succ] at bxa bxb xba xbb
      go_wp2_with fail
      refine (toIntSS_seg _ _ _ z1 _ rfl (HR1.out.below HB5.out) (by omega) (by omega)).mono ?_
      rintro e v6 ⟨g6, rfl, hs6, hb6⟩
      clear bxa bxb xba xbb
      have HB6 := Lib.hid (HB5.out.trans (hb6.mono HB5.out.size))
      have hz6 := hb6.size
      have S_x0_6 := Lib.hid (S_x0_5.out.below hb6)
      have XB_6 := Lib.hid (XB.out.below hb6)
      clear HB5 S_x0_5 XB hb6
      have S_x1 := Lib.hid hs6
      clear hs6
      have bxa := (BX.out.below HB6.out).cell 0
      have bxb := (BX.out.below HB6.out).cell 1
      have xba := XB_6.out.cell 0
      have xbb := XB_6.out.cell 1
      simp only [List.getElem?_toArray, List.getElem?_cons_zero, List.getElem?_cons_succ] at bxa bxb xba xbb
      go_wp2_with fail
      refine (impl_IsSelection _ _ _ _ m0 z0 z1 _ S_x0_6.out.row S_x1.out.row ⟨by omega, by omega⟩ (by omega) (totL_each (by omega))).mono ?_
      rintro e v7 ⟨rfl, hb7⟩
      clear bxa bxb xba xbb
      have HB7 := Lib.hid (HB6.out.trans (hb7.mono HB6.out.size))
      have hz7 := hb7.size
      have S_x0_7 := Lib.hid (S_x0_6.out.below hb7)
      have XB_7 := Lib.hid (XB_6.out.below hb7)
      have S_x1_7 := Lib.hid (S_x1.out.below hb7)
      clear HB6 S_x0_6 XB_6 S_x1 hb7
      have HT := Lib.hid (fun W (hW : Below v7.heap.size v7 W) => toJobShop_seg m0 a0 z0.length c0 z0 W rfl (HR0.out.below (HB7.out.trans (hW.mono HB7.out.size))) (by omega) (by omega))
      have HE := Lib.hid (fun W (hW : Below v7.heap.size v7 W) A1 c1 (hq : RowX pc W A1 z0) => eqJobShop_seg m0 _ A1 z0.length c1 z0.length z0 W rfl (S_x0_7.out.below hW).row hq ⟨by omega, by omega⟩)
      have bxa := (BX.out.below HB7.out).cell 0
      have bxb := (BX.out.below HB7.out).cell 1
      have xba := XB_7.out.cell 0
      have xbb := XB_7.out.cell 1
      simp only [List.getElem?_toArray, List.getElem?_cons_zero, List.getElem?_cons_succ] at bxa bxb xba xbb
      go_wp2
      go_region_with (first | (go_at_call 7; refine (HT.out _ (by first | exact Below.refl _ _ | exact (Below.refl _ _).drew | exact (Below.refl _ _).drewN _)).mono ?_; rintro e we ⟨ge, rfl, hse, hbe⟩; have xbc := (XB_7.out.below (⟨hbe.os, hbe.tape, hbe.output, hbe.size, hbe.block⟩ : Below v7.heap.size v7 we)).cell 0; have xbd := (XB_7.out.below (⟨hbe.os, hbe.tape, hbe.output, hbe.size, hbe.block⟩ : Below v7.heap.size v7 we)).cell 1; simp only [List.getElem?_toArray, List.getElem?_cons_zero, List.getElem?_cons_succ] at xbc xbd) | (go_at_call 10; refine (HE.out _ (⟨hbe.os, hbe.tape, hbe.output, hbe.size, hbe.block⟩ : Below v7.heap.size v7 we) _ _ hse.row).mono ?_; rintro e wf ⟨rfl, hbf⟩))
      all_goals
        have hb8 : Below v7.heap.size v7 wf := (⟨hbe.os, hbe.tape, hbe.output, hbe.size, hbe.block⟩ : Below v7.heap.size v7 we).trans (hbf.mono hbe.size)
        clear hse hbe hbf xbc xbd HT HE bxa bxb xba xbb
        have HB8 := Lib.hid (HB7.out.trans (hb8.mono HB7.out.size))
        have hz8 := hb8.size
        have S_x0_8 := Lib.hid (S_x0_7.out.below hb8)
        have XB_8 := Lib.hid (XB_7.out.below hb8)
        have S_x1_8 := Lib.hid (S_x1_7.out.below hb8)
        clear HB7 S_x0_7 XB_7 S_x1_7 hb8
        have bxa := (BX.out.below HB8.out).cell 0
        have bxb := (BX.out.below HB8.out).cell 1
        have xba := XB_8.out.cell 0
        have xbb := XB_8.out.cell 1
        simp only [List.getElem?_toArray, List.getElem?_cons_zero, List.getElem?_cons_succ] at bxa bxb xba xbb
        go_wp2_with fail
        refine (toIntSS_seg _ _ _ z1 _ rfl (HR1.out.below HB8.out) (by omega) (by omega)).mono ?_
        rintro e v9 ⟨g9, rfl, hs9, hb9⟩
        clear bxa bxb xba xbb
        clear S_x0_8
        have HB9 := Lib.hid (HB8.out.trans (hb9.mono HB8.out.size))
        have hz9 := hb9.size
        have XB_9 := Lib.hid (XB_8.out.below hb9)
        have S_x1_9 := Lib.hid (S_x1_8.out.below hb9)
        clear HB8 XB_8 S_x1_8 hb9
        have S_t8 := Lib.hid hs9
        clear hs9
        have bxa := (BX.out.below HB9.out).cell 0
        have bxb := (BX.out.below HB9.out).cell 1
        have xba := XB_9.out.cell 0
        have xbb := XB_9.out.cell 1
        simp only [List.getElem?_toArray, List.getElem?_cons_zero, List.getElem?_cons_succ] at bxa bxb xba xbb
        go_wp2_with fail
        refine (eqIntSS_seg _ _ _ _ z1 _ S_x1_9.out.row S_t8.out.row (by omega)).mono ?_
        rintro e v10 ⟨rfl, hb10⟩
        clear bxa bxb xba xbb
        have HB10 := Lib.hid (HB9.out.trans (hb10.mono HB9.out.size))
        have hz10 := hb10.size
        have XB_10 := Lib.hid (XB_9.out.below hb10)
        have S_x1_10 := Lib.hid (S_x1_9.out.below hb10)
        have S_t8_10 := Lib.hid (S_t8.out.below hb10)
        clear HB9 XB_9 S_x1_9 S_t8 hb10
        clear S_t8_10
        go_wp2
        go_ret
        exact ⟨rfl, HBW.out.trans (HB10.out.mono HBW.out.size)⟩
    · go_wp2
      go_ret
      exact ⟨rfl, HBW.out.trans (HB0.out.mono HBW.out.size)⟩
  · go_wp2
    go_ret
    exact ⟨rfl, HBW.out.trans (hb0.mono HBW.out.size)⟩

set_option maxRecDepth 100000 in
/-- What the walk gives, for every argument that can be read and every world. -/
theorem contract (H : Type) (enc : TypeId × Value → H) (W : World) (base : Nat) (args : Array Value) (ds gs : List (DataW H)) (before : List MemPlace)
    (hval : ∀ (j : Nat) t v, Try.f3.params[j]? = some t → args[j]? = some v → Value.okWide Try.prog W .any base t v)
    (hW : DataW.Whole enc Try.prog Try.f3.params.toList Rows.fnExactIsSelectionSpec.vars false W args.toList ds gs before) (hsh : W.ShapedOpen Try.prog) :
    Calls Try.prog 3 args W fun e W' => ∃ v, e = .returned v ∧ Rows.fnExactIsSelectionSpec.post enc Try.prog Try.f3 false true false false W args v W' := by
  have hW' := hW
  obtain ⟨p, q, hA0, hV, rfl, hfz, hnd⟩ := hW
  have hA : DataW.TrodAll enc Try.prog W 0 (fun _ => true) true Try.f3.params.toList args.toList ds p := hA0
  rw [Try.params3] at hA hval
  obtain ⟨v0, vs0, d0, ds0, p0, q0, hargs, rfl, rfl, h0, r0⟩ := trodAll_cons hA
  obtain ⟨v1, vs1, d1, ds1, p1, q1, rfl, rfl, rfl, h1, r1⟩ := trodAll_cons r0
  obtain ⟨rfl, rfl, rfl⟩ := trodAll_nil r1
  obtain rfl : args = #[v0, v1] := by cases args; simp_all
  obtain ⟨rfl, rfl⟩ := trodVars_none hV
  have k0 := h0
  have lt0 : ∀ x ∈ p0, x.block < W.heap.size := by obtain ⟨m, hm⟩ := k0; exact DataW.trod_lt m _ _ _ hm
  have k1 := h1
  have lt1 : ∀ x ∈ p1, x.block < W.heap.size := by obtain ⟨m, hm⟩ := k1; exact DataW.trod_lt m _ _ _ hm
  obtain ⟨ca0, rfl, _⟩ := okWide_struct Try.underlying24 (hval 0 24 v0 rfl rfl)
  obtain ⟨m0, a0, l0, c0, z0, hcs0, w0⟩ : ∃ m A len cap js, ca0 = #[.int .i64 m, .slice A len cap] ∧ IsShopA W m A len cap js := by
    obtain ⟨fuel, hf⟩ := h0
    obtain ⟨m, A', l', c', js, hcs, hj⟩ := open_shop Try.underlying24 ⟨⟨rfl, rfl⟩, by kernel_rfl, by kernel_rfl, by kernel_rfl⟩ Try.underlying3 Try.underlying22 Try.underlying49 Try.underlying68 (by kernel_rfl) (by kernel_rfl) (by kernel_rfl) Try.underlying3 Try.underlying3 hf
    exact ⟨m, A', l', c', js, by simpa [Value.cells] using congrArg List.toArray hcs, hj⟩
  subst hcs0
  obtain ⟨a1, l1, c1, rfl⟩ := okWide_slice Try.underlying25 (hval 1 25 v1 rfl rfl)
  obtain ⟨z1, w1⟩ : ∃ zs, IsSSA W a1 l1 c1 zs := by
    obtain ⟨fuel, hf⟩ := h1
    obtain ⟨A', l', c', js, hcs, hj⟩ := open_ss Try.underlying25 Try.underlying40 (by kernel_rfl) (by kernel_rfl) Try.underlying3 hf
    simp [Value.cells] at hcs
    obtain ⟨rfl, rfl, rfl⟩ := hcs
    exact ⟨js, hj⟩

  clear hA0
  refine (walk m0 a0 l0 c0 z0 a1 l1 c1 z1 W w0 w1 ).mono fun e W' ⟨he, bel⟩ => ?_
  subst he
  exact ⟨_, rfl, _, _, _, [], _, [], hW', trodAll_mk1 (shut_bool Try.underlying4 _), (trodAll_cons_mk (Below.trod laidOut (by kernel_rfl) (of_decide_eq_true (by kernel_rfl)) k0 bel lt0) (trodAll_cons_mk (Below.trod laidOut (by kernel_rfl) (of_decide_eq_true (by kernel_rfl)) k1 bel lt1) trodAll_mk0)), rfl, bel.frame _, fun h => by cases h⟩

set_option maxRecDepth 100000 in
theorem lifted (os : Os) (started : os.Started) (H : Type) (enc : TypeId × Value → H) :
    ReturnsInHanded {} Try.checked os 3 .any (Rows.fnExactIsSelectionSpec.pre6 enc Try.prog Try.f3 Rows.fnExactIsSelectionRow.domain false) (Rows.fnExactIsSelectionSpec.post enc Try.prog Try.f3 false true false false) := by
  refine returnsInHanded_of_change_shaped (C := Try.checked) own started (by kernel_rfl) Try.func3
    (ChangeSpec.witness6 (enc := enc) (C := Try.checked) false ⟨#[], #[.agg #[.int .i64 0, .slice none 0 0], .slice none 0 0], []⟩ 8 (by kernel_rfl) (by kernel_rfl) (by kernel_rfl) (by kernel_rfl)) ?_
  intro W base args ds gs before hval hW _ _ hsh _
  exact contract H enc W base args ds gs before hval hW hsh

theorem proved : Rows.FnExactIsSelectionSaid :=
  OpenClaim.holds_of_wide 3 Try.f3 rfl rfl rfl rfl rfl rfl rfl ⟨rfl, rfl, rfl, rfl, rfl⟩ rfl rfl rfl rfl rfl (by kernel_rfl) Try.func3 closed
    (of_decide_eq_true (by kernel_rfl)) (by unfold Func.isWrapper; first | (rw [if_pos (by decide +kernel)]; kernel_rfl) | (rw [if_neg (by decide +kernel)]; exact ⟨rfl, rfl⟩))
    (fun os started H enc _ => lifted os started H enc)
end Go.Proofs.Yteidhjmnononaaa.fnExactIsSelection
