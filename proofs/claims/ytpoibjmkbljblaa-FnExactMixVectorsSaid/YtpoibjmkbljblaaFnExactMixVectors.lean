/- MixVectors of the program and of the model agree at all jobs, lists of numbers and factors, the arguments are left as they were, what is returned is memory of its own at each call, and the law's function returns true. No condition. -/
import Derived.Test.YtpoibjmkbljblaaRows
import Derived.Test.YtpoibjmkbljblaaBase
import Derived.Test.YtpoibjmkbljblaaFacts
import Derived.Test.YtpoibjmkbljblaaMvI
import Derived.Test.YtpoibjmkbljblaaArgJ
import Derived.Test.YtpoibjmkbljblaaSegH
import Derived.WalkKit
import Derived.ProofKit
import Derived.HandedShaped
import Derived.OpenShut
import Derived.ShutString
namespace Go.Proofs.Ytpoibjmkbljblaa.fnExactMixVectors
open Go.ChangeShapes Go.WideShapes Go.ChangeAt Go.RowKit Go.WideMaps Go.WideElems
open Go.ChangeMaps (open_string shut_string)
set_option linter.unusedVariables false

theorem own : ownKnob Try.prog.godebug = none := by kernel_rfl
theorem laidOut : laidOutB Try.prog = true := fact_laid
theorem closed : joinedFacts Try.prog 3 Try.f3 Rows.fnExactMixVectorsSpec Rows.fnExactMixVectorsRow = true := by
  unfold joinedFacts
  exact (and_t (and_t (and_t (and_t (and_t (and_t (and_t (and_t (and_t (and_t (and_t (and_t (and_t (and_t (and_t (and_t (and_t (and_t (and_t (and_t (and_t (and_t (and_t (and_t (and_t (and_t (and_t (and_t (and_t (and_t (and_t (by kernel_rfl) fact_laid) fact_maps) (by kernel_rfl)) (by kernel_rfl)) (by kernel_rfl)) (by kernel_rfl)) (by kernel_rfl)) (by kernel_rfl)) (by kernel_rfl)) (by kernel_rfl)) (by kernel_rfl)) (by kernel_rfl)) (by kernel_rfl)) (by kernel_rfl)) (by kernel_rfl)) (by kernel_rfl)) (by kernel_rfl)) (by kernel_rfl)) (by kernel_rfl)) (by kernel_rfl)) (by kernel_rfl)) (by kernel_rfl)) (by kernel_rfl)) fact_heard) fact_enter) fact_lifts) fact_make) (by kernel_rfl)) (by kernel_rfl)) (by kernel_rfl)) (by kernel_rfl))



set_option maxRecDepth 100000 in
set_option maxHeartbeats 4000000 in
/-- THE WALK: the law's function returns true and leaves what was there as it was. -/
theorem walk (a0 : Option Addr) (l0 c0 : Nat) (z0 : List J) (a1 : Option Addr) (l1 c1 : Nat) (z1 : List Int) (a2 : Option Addr) (l2 c2 : Nat) (z2 : List Int) (a3 : Int) (w3 : (Lit.int .i64 a3).wf = true) (a4 : Int) (w4 : (Lit.int .i64 a4).wf = true) (w : World) (w0 : IsJobsA w a0 l0 c0 z0) (w1 : IsInts .i64 w a1 l1 c1 z1) (w2 : IsInts .i64 w a2 l2 c2 z2)  :
    Calls Try.prog 3 #[.slice a0 l0 c0, .slice a1 l1 c1, .slice a2 l2 c2, .int .i64 a3, .int .i64 a4] w fun e w' => e = .returned (.bool true) ∧ Below w.heap.size w w' := by
  obtain ⟨rfl, hlc0, hcm0, hr0, _⟩ := w0
  have hm0 : z0.length ≤ maxLen := by omega
  have HR0 := Lib.hid hr0
  clear hr0
  obtain ⟨o1, rfl, hr1, hm1, _⟩ := w1.row
  have HR1 := Lib.hid hr1
  clear hr1
  obtain ⟨o2, rfl, hr2, hm2, _⟩ := w2.row
  have HR2 := Lib.hid hr2
  clear hr2
  have hL0 := mixR_len z0 o1 o2 a3 a4
  by_cases hsz1 : 1048576 < o1.length
  · go_enter Try.func3, Try.ntmps3
    go_wp2
    go_ret
    exact ⟨rfl, Below.refl _ _⟩
  · have hsz1' : o1.length ≤ 1048576 := by omega
    by_cases hsz2 : 1048576 < o2.length
    · go_enter Try.func3, Try.ntmps3
      go_wp2
      go_ret
      exact ⟨rfl, Below.refl _ _⟩
    · have hsz2' : o2.length ≤ 1048576 := by omega
      go_enter Try.func3, Try.ntmps3
      go_wp2_with fail
      refine (szJobS_any a0 z0.length c0 _ hm0).mono ?_
      rintro e _ ⟨⟨rfl, hn0⟩ | ⟨rfl, hn0⟩, rfl⟩
      · skip
        go_wp2_with fail
        refine (toJobS_seg _ _ z0 _ HR0.out (by omega)).mono ?_
        rintro e v1 ⟨g1, rfl, hs1, hb1⟩
        have HB1 := Lib.hid (hb1)
        have hz1 := hb1.size
        clear hb1
        have S_t0 := Lib.hid hs1
        clear hs1
        go_wp2_with fail
        refine (toIntS_seg _ _ o1 _ (HR1.out.below HB1.out) (by omega)).mono ?_
        rintro e v2 ⟨g2, rfl, hs2, hb2⟩
        have HB2 := Lib.hid (HB1.out.trans (hb2.mono HB1.out.size))
        have hz2 := hb2.size
        have S_t0_2 := Lib.hid (S_t0.out.below hb2)
        clear HB1 S_t0 hb2
        have S_t1 := Lib.hid hs2
        clear hs2
        go_wp2_with fail
        refine (toIntS_seg _ _ o2 _ (HR2.out.below HB2.out) (by omega)).mono ?_
        rintro e v3 ⟨g3, rfl, hs3, hb3⟩
        have HB3 := Lib.hid (HB2.out.trans (hb3.mono HB2.out.size))
        have hz3 := hb3.size
        have S_t0_3 := Lib.hid (S_t0_2.out.below hb3)
        have S_t1_3 := Lib.hid (S_t1.out.below hb3)
        clear HB2 S_t0_2 S_t1 hb3
        have S_t2 := Lib.hid hs3
        clear hs3
        go_wp2_with fail
        refine (spec_MixVectors _ _ _ _ _ _ z0 o1 o2 a3 a4 _ S_t0_3.out.row S_t1_3.out.row S_t2.out.row (by omega) (by omega) (by omega)).mono ?_
        rintro e v4 ⟨A4_0, c4_0, rfl, hs4_0, hb4⟩
        clear S_t0_3
        clear S_t1_3
        clear S_t2
        have HB4 := Lib.hid (HB3.out.trans (hb4.mono HB3.out.size))
        have hz4 := hb4.size
        clear HB3 hb4
        have S_w0 := Lib.hid hs4_0
        clear hs4_0
        go_wp2_with fail
        refine (toJobS_seg _ _ z0 _ (HR0.out.below HB4.out) (by omega)).mono ?_
        rintro e v5 ⟨g5, rfl, hs5, hb5⟩
        have HB5 := Lib.hid (HB4.out.trans (hb5.mono HB4.out.size))
        have hz5 := hb5.size
        have S_w0_5 := Lib.hid (S_w0.out.below hb5)
        clear HB4 S_w0 hb5
        have S_x0 := Lib.hid hs5
        clear hs5
        go_wp2_with fail
        refine (toIntS_seg _ _ o1 _ (HR1.out.below HB5.out) (by omega)).mono ?_
        rintro e v6 ⟨g6, rfl, hs6, hb6⟩
        have HB6 := Lib.hid (HB5.out.trans (hb6.mono HB5.out.size))
        have hz6 := hb6.size
        have S_w0_6 := Lib.hid (S_w0_5.out.below hb6)
        have S_x0_6 := Lib.hid (S_x0.out.below hb6)
        clear HB5 S_w0_5 S_x0 hb6
        have S_x1 := Lib.hid hs6
        clear hs6
        go_wp2_with fail
        refine (toIntS_seg _ _ o2 _ (HR2.out.below HB6.out) (by omega)).mono ?_
        rintro e v7 ⟨g7, rfl, hs7, hb7⟩
        have HB7 := Lib.hid (HB6.out.trans (hb7.mono HB6.out.size))
        have hz7 := hb7.size
        have S_w0_7 := Lib.hid (S_w0_6.out.below hb7)
        have S_x0_7 := Lib.hid (S_x0_6.out.below hb7)
        have S_x1_7 := Lib.hid (S_x1.out.below hb7)
        clear HB6 S_w0_6 S_x0_6 S_x1 hb7
        have S_x2 := Lib.hid hs7
        clear hs7
        go_wp2_with fail
        refine (impl_MixVectors _ _ _ _ _ _ z0 o1 o2 a3 a4 _ S_x0_7.out.row S_x1_7.out.row S_x2.out.row (by omega) (by omega) (by omega)).mono ?_
        rintro e v8 ⟨A8_0, c8_0, rfl, hs8_0, hb8⟩
        have HB8 := Lib.hid (HB7.out.trans (hb8.mono HB7.out.size))
        have hz8 := hb8.size
        have S_w0_8 := Lib.hid (S_w0_7.out.below hb8)
        have S_x0_8 := Lib.hid (S_x0_7.out.below hb8)
        have S_x1_8 := Lib.hid (S_x1_7.out.below hb8)
        have S_x2_8 := Lib.hid (S_x2.out.below hb8)
        clear HB7 S_w0_7 S_x0_7 S_x1_7 S_x2 hb8
        have S_g0 := Lib.hid hs8_0
        clear hs8_0
        go_wp2_with fail
        refine (eqIntS_seg _ _ _ _ (mixR z0 o1 o2 a3 a4).1 _ S_g0.out.row S_w0_8.out.row (by omega)).mono ?_
        rintro e v9 ⟨rfl, hb9⟩
        have HB9 := Lib.hid (HB8.out.trans (hb9.mono HB8.out.size))
        have hz9 := hb9.size
        have S_w0_9 := Lib.hid (S_w0_8.out.below hb9)
        have S_x0_9 := Lib.hid (S_x0_8.out.below hb9)
        have S_x1_9 := Lib.hid (S_x1_8.out.below hb9)
        have S_x2_9 := Lib.hid (S_x2_8.out.below hb9)
        have S_g0_9 := Lib.hid (S_g0.out.below hb9)
        clear HB8 S_w0_8 S_x0_8 S_x1_8 S_x2_8 S_g0 hb9
        go_wp2_with fail
        refine (toJobS_seg _ _ z0 _ (HR0.out.below HB9.out) (by omega)).mono ?_
        rintro e v10 ⟨g10, rfl, hs10, hb10⟩
        have HB10 := Lib.hid (HB9.out.trans (hb10.mono HB9.out.size))
        have hz10 := hb10.size
        have S_w0_10 := Lib.hid (S_w0_9.out.below hb10)
        have S_x0_10 := Lib.hid (S_x0_9.out.below hb10)
        have S_x1_10 := Lib.hid (S_x1_9.out.below hb10)
        have S_x2_10 := Lib.hid (S_x2_9.out.below hb10)
        have S_g0_10 := Lib.hid (S_g0_9.out.below hb10)
        clear HB9 S_w0_9 S_x0_9 S_x1_9 S_x2_9 S_g0_9 hb10
        have S_t9 := Lib.hid hs10
        clear hs10
        go_wp2_with fail
        refine (eqJobS_same _ _ _ _ z0 _ S_x0_10.out.row S_t9.out.row (by omega)).mono ?_
        rintro e v11 ⟨rfl, hb11⟩
        have HB11 := Lib.hid (HB10.out.trans (hb11.mono HB10.out.size))
        have hz11 := hb11.size
        have S_w0_11 := Lib.hid (S_w0_10.out.below hb11)
        have S_x0_11 := Lib.hid (S_x0_10.out.below hb11)
        have S_x1_11 := Lib.hid (S_x1_10.out.below hb11)
        have S_x2_11 := Lib.hid (S_x2_10.out.below hb11)
        have S_g0_11 := Lib.hid (S_g0_10.out.below hb11)
        have S_t9_11 := Lib.hid (S_t9.out.below hb11)
        clear HB10 S_w0_10 S_x0_10 S_x1_10 S_x2_10 S_g0_10 S_t9 hb11
        clear S_t9_11
        go_wp2_with fail
        refine (toIntS_seg _ _ o1 _ (HR1.out.below HB11.out) (by omega)).mono ?_
        rintro e v12 ⟨g12, rfl, hs12, hb12⟩
        have HB12 := Lib.hid (HB11.out.trans (hb12.mono HB11.out.size))
        have hz12 := hb12.size
        have S_w0_12 := Lib.hid (S_w0_11.out.below hb12)
        have S_x0_12 := Lib.hid (S_x0_11.out.below hb12)
        have S_x1_12 := Lib.hid (S_x1_11.out.below hb12)
        have S_x2_12 := Lib.hid (S_x2_11.out.below hb12)
        have S_g0_12 := Lib.hid (S_g0_11.out.below hb12)
        clear HB11 S_w0_11 S_x0_11 S_x1_11 S_x2_11 S_g0_11 hb12
        have S_t11 := Lib.hid hs12
        clear hs12
        go_wp2_with fail
        refine (eqIntS_seg _ _ _ _ o1 _ S_x1_12.out.row S_t11.out.row (by omega)).mono ?_
        rintro e v13 ⟨rfl, hb13⟩
        have HB13 := Lib.hid (HB12.out.trans (hb13.mono HB12.out.size))
        have hz13 := hb13.size
        have S_w0_13 := Lib.hid (S_w0_12.out.below hb13)
        have S_x0_13 := Lib.hid (S_x0_12.out.below hb13)
        have S_x1_13 := Lib.hid (S_x1_12.out.below hb13)
        have S_x2_13 := Lib.hid (S_x2_12.out.below hb13)
        have S_g0_13 := Lib.hid (S_g0_12.out.below hb13)
        have S_t11_13 := Lib.hid (S_t11.out.below hb13)
        clear HB12 S_w0_12 S_x0_12 S_x1_12 S_x2_12 S_g0_12 S_t11 hb13
        clear S_t11_13
        go_wp2_with fail
        refine (toIntS_seg _ _ o2 _ (HR2.out.below HB13.out) (by omega)).mono ?_
        rintro e v14 ⟨g14, rfl, hs14, hb14⟩
        have HB14 := Lib.hid (HB13.out.trans (hb14.mono HB13.out.size))
        have hz14 := hb14.size
        have S_w0_14 := Lib.hid (S_w0_13.out.below hb14)
        have S_x0_14 := Lib.hid (S_x0_13.out.below hb14)
        have S_x1_14 := Lib.hid (S_x1_13.out.below hb14)
        have S_x2_14 := Lib.hid (S_x2_13.out.below hb14)
        have S_g0_14 := Lib.hid (S_g0_13.out.below hb14)
        clear HB13 S_w0_13 S_x0_13 S_x1_13 S_x2_13 S_g0_13 hb14
        have S_t13 := Lib.hid hs14
        clear hs14
        go_wp2_with fail
        refine (eqIntS_seg _ _ _ _ o2 _ S_x2_14.out.row S_t13.out.row (by omega)).mono ?_
        rintro e v15 ⟨rfl, hb15⟩
        have HB15 := Lib.hid (HB14.out.trans (hb15.mono HB14.out.size))
        have hz15 := hb15.size
        have S_w0_15 := Lib.hid (S_w0_14.out.below hb15)
        have S_x0_15 := Lib.hid (S_x0_14.out.below hb15)
        have S_x1_15 := Lib.hid (S_x1_14.out.below hb15)
        have S_x2_15 := Lib.hid (S_x2_14.out.below hb15)
        have S_g0_15 := Lib.hid (S_g0_14.out.below hb15)
        have S_t13_15 := Lib.hid (S_t13.out.below hb15)
        clear HB14 S_w0_14 S_x0_14 S_x1_14 S_x2_14 S_g0_14 S_t13 hb15
        clear S_t13_15
        go_wp2_with fail
        refine (markJobS_seg _ _ _ _ _ _ _ _ S_x0_15.out (by omega) (by omega) (by omega)).mono ?_
        rintro e v16 ⟨rfl, hs16, ht16⟩
        have HB16 := Lib.hid (HB15.out.trans (ht16.below (by omega) (by omega)))
        have hz16 := ht16.size
        have S_w0_16 := Lib.hid (S_w0_15.out.keep ht16 (by omega))
        have S_x1_16 := Lib.hid (S_x1_15.out.keep ht16 (by omega))
        have S_x2_16 := Lib.hid (S_x2_15.out.keep ht16 (by omega))
        have S_g0_16 := Lib.hid (S_g0_15.out.keep ht16 (by omega))
        clear HB15 S_w0_15 S_x1_15 S_x2_15 S_g0_15 ht16
        clear S_x0_15
        have S_x0_16 := Lib.hid hs16
        clear hs16
        go_wp2_with fail
        refine (markIntS_seg _ _ _ _ _ _ _ _ S_x1_16.out (by omega) (by omega) (by omega)).mono ?_
        rintro e v17 ⟨rfl, hs17, ht17⟩
        clear S_x0_16
        have HB17 := Lib.hid (HB16.out.trans (ht17.below (by omega) (by omega)))
        have hz17 := ht17.size
        have S_w0_17 := Lib.hid (S_w0_16.out.keep ht17 (by omega))
        have S_x2_17 := Lib.hid (S_x2_16.out.keep ht17 (by omega))
        have S_g0_17 := Lib.hid (S_g0_16.out.keep ht17 (by omega))
        clear HB16 S_w0_16 S_x2_16 S_g0_16 ht17
        clear S_x1_16
        have S_x1_17 := Lib.hid hs17
        clear hs17
        go_wp2_with fail
        refine (markIntS_seg _ _ _ _ _ _ _ _ S_x2_17.out (by omega) (by omega) (by omega)).mono ?_
        rintro e v18 ⟨rfl, hs18, ht18⟩
        clear S_x1_17
        have HB18 := Lib.hid (HB17.out.trans (ht18.below (by omega) (by omega)))
        have hz18 := ht18.size
        have S_w0_18 := Lib.hid (S_w0_17.out.keep ht18 (by omega))
        have S_g0_18 := Lib.hid (S_g0_17.out.keep ht18 (by omega))
        clear HB17 S_w0_17 S_g0_17 ht18
        clear S_x2_17
        have S_x2_18 := Lib.hid hs18
        clear hs18
        go_wp2_with fail
        refine (eqIntS_seg _ _ _ _ (mixR z0 o1 o2 a3 a4).1 _ S_g0_18.out.row S_w0_18.out.row (by omega)).mono ?_
        rintro e v19 ⟨rfl, hb19⟩
        clear S_x2_18
        have HB19 := Lib.hid (HB18.out.trans (hb19.mono HB18.out.size))
        have hz19 := hb19.size
        have S_w0_19 := Lib.hid (S_w0_18.out.below hb19)
        have S_g0_19 := Lib.hid (S_g0_18.out.below hb19)
        clear HB18 S_w0_18 S_g0_18 hb19
        go_wp2_with fail
        refine (markIntS_seg _ _ _ _ _ _ _ _ S_g0_19.out (by omega) (by omega) (by omega)).mono ?_
        rintro e v20 ⟨rfl, hs20, ht20⟩
        have HB20 := Lib.hid (HB19.out.trans (ht20.below (by omega) (by omega)))
        have hz20 := ht20.size
        have S_w0_20 := Lib.hid (S_w0_19.out.keep ht20 (by omega))
        clear HB19 S_w0_19 ht20
        clear S_g0_19
        have S_g0_20 := Lib.hid hs20
        clear hs20
        go_wp2_with fail
        refine (heldIntS_seg _ _ _ _ _ S_g0_20.out.row (by omega) (by omega) (by omega)).mono ?_
        rintro e _ ⟨rfl, rfl⟩
        go_wp2_with fail
        refine (toJobS_seg _ _ z0 _ (HR0.out.below HB20.out) (by omega)).mono ?_
        rintro e v21 ⟨g21, rfl, hs21, hb21⟩
        have HB21 := Lib.hid (HB20.out.trans (hb21.mono HB20.out.size))
        have hz21 := hb21.size
        have S_w0_21 := Lib.hid (S_w0_20.out.below hb21)
        have S_g0_21 := Lib.hid (S_g0_20.out.below hb21)
        clear HB20 S_w0_20 S_g0_20 hb21
        have S_t20 := Lib.hid hs21
        clear hs21
        go_wp2_with fail
        refine (toIntS_seg _ _ o1 _ (HR1.out.below HB21.out) (by omega)).mono ?_
        rintro e v22 ⟨g22, rfl, hs22, hb22⟩
        have HB22 := Lib.hid (HB21.out.trans (hb22.mono HB21.out.size))
        have hz22 := hb22.size
        have S_w0_22 := Lib.hid (S_w0_21.out.below hb22)
        have S_g0_22 := Lib.hid (S_g0_21.out.below hb22)
        have S_t20_22 := Lib.hid (S_t20.out.below hb22)
        clear HB21 S_w0_21 S_g0_21 S_t20 hb22
        have S_t21 := Lib.hid hs22
        clear hs22
        go_wp2_with fail
        refine (toIntS_seg _ _ o2 _ (HR2.out.below HB22.out) (by omega)).mono ?_
        rintro e v23 ⟨g23, rfl, hs23, hb23⟩
        have HB23 := Lib.hid (HB22.out.trans (hb23.mono HB22.out.size))
        have hz23 := hb23.size
        have S_w0_23 := Lib.hid (S_w0_22.out.below hb23)
        have S_g0_23 := Lib.hid (S_g0_22.out.below hb23)
        have S_t20_23 := Lib.hid (S_t20_22.out.below hb23)
        have S_t21_23 := Lib.hid (S_t21.out.below hb23)
        clear HB22 S_w0_22 S_g0_22 S_t20_22 S_t21 hb23
        have S_t22 := Lib.hid hs23
        clear hs23
        go_wp2_with fail
        refine (impl_MixVectors _ _ _ _ _ _ z0 o1 o2 a3 a4 _ S_t20_23.out.row S_t21_23.out.row S_t22.out.row (by omega) (by omega) (by omega)).mono ?_
        rintro e v24 ⟨A24_0, c24_0, rfl, hs24_0, hb24⟩
        clear S_t20_23
        clear S_t21_23
        clear S_t22
        have HB24 := Lib.hid (HB23.out.trans (hb24.mono HB23.out.size))
        have hz24 := hb24.size
        have S_w0_24 := Lib.hid (S_w0_23.out.below hb24)
        have S_g0_24 := Lib.hid (S_g0_23.out.below hb24)
        clear HB23 S_w0_23 S_g0_23 hb24
        have S_h0 := Lib.hid hs24_0
        clear hs24_0
        go_wp2_with fail
        refine (eqIntS_seg _ _ _ _ (mixR z0 o1 o2 a3 a4).1 _ S_h0.out.row S_w0_24.out.row (by omega)).mono ?_
        rintro e v25 ⟨rfl, hb25⟩
        have HB25 := Lib.hid (HB24.out.trans (hb25.mono HB24.out.size))
        have hz25 := hb25.size
        have S_w0_25 := Lib.hid (S_w0_24.out.below hb25)
        have S_g0_25 := Lib.hid (S_g0_24.out.below hb25)
        have S_h0_25 := Lib.hid (S_h0.out.below hb25)
        clear HB24 S_w0_24 S_g0_24 S_h0 hb25
        go_wp2_with fail
        refine (heldIntS_seg _ _ _ _ _ S_g0_25.out.row (by omega) (by omega) (by omega)).mono ?_
        rintro e _ ⟨rfl, rfl⟩
        go_wp2
        go_ret
        exact ⟨rfl, HB25.out⟩
      · go_wp2
        go_ret
        exact ⟨rfl, Below.refl _ _⟩

set_option maxRecDepth 100000 in
/-- What the walk gives, for every argument that can be read and every world. -/
theorem contract (H : Type) (enc : TypeId × Value → H) (W : World) (base : Nat) (args : Array Value) (ds gs : List (DataW H)) (before : List MemPlace)
    (hval : ∀ (j : Nat) t v, Try.f3.params[j]? = some t → args[j]? = some v → Value.okWide Try.prog W .any base t v)
    (hW : DataW.Whole enc Try.prog Try.f3.params.toList Rows.fnExactMixVectorsSpec.vars false W args.toList ds gs before) (hsh : W.ShapedOpen Try.prog) :
    Calls Try.prog 3 args W fun e W' => ∃ v, e = .returned v ∧ Rows.fnExactMixVectorsSpec.post enc Try.prog Try.f3 false true false false W args v W' := by
  have hW' := hW
  obtain ⟨p, q, hA0, hV, rfl, hfz, hnd⟩ := hW
  have hA : DataW.TrodAll enc Try.prog W 0 (fun _ => true) true Try.f3.params.toList args.toList ds p := hA0
  rw [Try.params3] at hA hval
  obtain ⟨v0, vs0, d0, ds0, p0, q0, hargs, rfl, rfl, h0, r0⟩ := trodAll_cons hA
  obtain ⟨v1, vs1, d1, ds1, p1, q1, rfl, rfl, rfl, h1, r1⟩ := trodAll_cons r0
  obtain ⟨v2, vs2, d2, ds2, p2, q2, rfl, rfl, rfl, h2, r2⟩ := trodAll_cons r1
  obtain ⟨v3, vs3, d3, ds3, p3, q3, rfl, rfl, rfl, h3, r3⟩ := trodAll_cons r2
  obtain ⟨v4, vs4, d4, ds4, p4, q4, rfl, rfl, rfl, h4, r4⟩ := trodAll_cons r3
  obtain ⟨rfl, rfl, rfl⟩ := trodAll_nil r4
  obtain rfl : args = #[v0, v1, v2, v3, v4] := by cases args; simp_all
  obtain ⟨rfl, rfl⟩ := trodVars_none hV
  have k0 := h0
  have lt0 : ∀ x ∈ p0, x.block < W.heap.size := by obtain ⟨m, hm⟩ := k0; exact DataW.trod_lt m _ _ _ hm
  have k1 := h1
  have lt1 : ∀ x ∈ p1, x.block < W.heap.size := by obtain ⟨m, hm⟩ := k1; exact DataW.trod_lt m _ _ _ hm
  have k2 := h2
  have lt2 : ∀ x ∈ p2, x.block < W.heap.size := by obtain ⟨m, hm⟩ := k2; exact DataW.trod_lt m _ _ _ hm
  have k3 := h3
  have lt3 : ∀ x ∈ p3, x.block < W.heap.size := by obtain ⟨m, hm⟩ := k3; exact DataW.trod_lt m _ _ _ hm
  have k4 := h4
  have lt4 : ∀ x ∈ p4, x.block < W.heap.size := by obtain ⟨m, hm⟩ := k4; exact DataW.trod_lt m _ _ _ hm
  obtain ⟨a0, l0, c0, rfl⟩ := okWide_slice Try.underlying22 (hval 0 22 v0 rfl rfl)
  obtain ⟨z0, w0⟩ : ∃ zs, IsJobsA W a0 l0 c0 zs := by
    obtain ⟨fuel, hf⟩ := h0
    obtain ⟨A', l', c', js, hcs, hj⟩ := open_jobs Try.underlying22 Try.underlying41 (by kernel_rfl) (by kernel_rfl) Try.underlying3 Try.underlying3 Try.underlying3 Try.underlying3 hf
    simp [Value.cells] at hcs
    obtain ⟨rfl, rfl, rfl⟩ := hcs
    exact ⟨js, hj⟩
  obtain ⟨a1, l1, c1, rfl⟩ := okWide_slice Try.underlying23 (hval 1 23 v1 rfl rfl)
  obtain ⟨z1, w1⟩ : ∃ zs, IsInts .i64 W a1 l1 c1 zs := by
    obtain ⟨fuel, hf⟩ := h1
    rcases open_ints Try.underlying23 Try.underlying3 (by kernel_rfl) hf with ⟨hcs, _⟩ | ⟨x, l, c, zs, hcs, _, hl, hm, hz, _, hcell, hwz⟩
    · simp [Value.cells] at hcs
      obtain ⟨rfl, rfl, rfl⟩ := hcs
      exact ⟨[], .inl ⟨rfl, rfl, rfl, rfl⟩⟩
    · simp [Value.cells] at hcs
      obtain ⟨rfl, rfl, rfl⟩ := hcs
      exact ⟨zs, .inr ⟨_, rfl, hl, hm, by simpa using hz, hcell, hwz⟩⟩
  obtain ⟨a2, l2, c2, rfl⟩ := okWide_slice Try.underlying23 (hval 2 23 v2 rfl rfl)
  obtain ⟨z2, w2⟩ : ∃ zs, IsInts .i64 W a2 l2 c2 zs := by
    obtain ⟨fuel, hf⟩ := h2
    rcases open_ints Try.underlying23 Try.underlying3 (by kernel_rfl) hf with ⟨hcs, _⟩ | ⟨x, l, c, zs, hcs, _, hl, hm, hz, _, hcell, hwz⟩
    · simp [Value.cells] at hcs
      obtain ⟨rfl, rfl, rfl⟩ := hcs
      exact ⟨[], .inl ⟨rfl, rfl, rfl, rfl⟩⟩
    · simp [Value.cells] at hcs
      obtain ⟨rfl, rfl, rfl⟩ := hcs
      exact ⟨zs, .inr ⟨_, rfl, hl, hm, by simpa using hz, hcell, hwz⟩⟩
  obtain ⟨a3, rfl, rfl, rfl, w3⟩ := open_int Try.underlying3 (hval 3 3 v3 rfl rfl) h3
  obtain ⟨a4, rfl, rfl, rfl, w4⟩ := open_int Try.underlying3 (hval 4 3 v4 rfl rfl) h4

  clear hA0
  refine (walk a0 l0 c0 z0 a1 l1 c1 z1 a2 l2 c2 z2 a3 w3 a4 w4 W w0 w1 w2 ).mono fun e W' ⟨he, bel⟩ => ?_
  subst he
  exact ⟨_, rfl, _, _, _, [], _, [], hW', trodAll_mk1 (shut_bool Try.underlying4 _), (trodAll_cons_mk (Below.trod laidOut (by kernel_rfl) (of_decide_eq_true (by kernel_rfl)) k0 bel lt0) (trodAll_cons_mk (Below.trod laidOut (by kernel_rfl) (of_decide_eq_true (by kernel_rfl)) k1 bel lt1) (trodAll_cons_mk (Below.trod laidOut (by kernel_rfl) (of_decide_eq_true (by kernel_rfl)) k2 bel lt2) (trodAll_cons_mk (Below.trod laidOut (by kernel_rfl) (of_decide_eq_true (by kernel_rfl)) k3 bel lt3) (trodAll_cons_mk (Below.trod laidOut (by kernel_rfl) (of_decide_eq_true (by kernel_rfl)) k4 bel lt4) trodAll_mk0))))), rfl, bel.frame _, fun h => by cases h⟩

set_option maxRecDepth 100000 in
theorem lifted (os : Os) (started : os.Started) (H : Type) (enc : TypeId × Value → H) :
    ReturnsInHanded {} Try.checked os 3 .any (Rows.fnExactMixVectorsSpec.pre6 enc Try.prog Try.f3 Rows.fnExactMixVectorsRow.domain false) (Rows.fnExactMixVectorsSpec.post enc Try.prog Try.f3 false true false false) := by
  refine returnsInHanded_of_change_shaped (C := Try.checked) own started (by kernel_rfl) Try.func3
    (ChangeSpec.witness6 (enc := enc) (C := Try.checked) false ⟨#[], #[.slice none 0 0, .slice none 0 0, .slice none 0 0, .int .i64 0, .int .i64 0], []⟩ 8 (by kernel_rfl) (by kernel_rfl) (by kernel_rfl) (by kernel_rfl)) ?_
  intro W base args ds gs before hval hW _ _ hsh _
  exact contract H enc W base args ds gs before hval hW hsh

theorem proved : Rows.FnExactMixVectorsSaid :=
  OpenClaim.holds_of_wide 3 Try.f3 rfl rfl rfl rfl rfl rfl rfl ⟨rfl, rfl, rfl, rfl, rfl⟩ rfl rfl rfl rfl rfl (by kernel_rfl) Try.func3 closed
    (of_decide_eq_true (by kernel_rfl)) (by unfold Func.isWrapper; first | (rw [if_pos (by decide +kernel)]; kernel_rfl) | (rw [if_neg (by decide +kernel)]; exact ⟨rfl, rfl⟩))
    (fun os started H enc _ => lifted os started H enc)
end Go.Proofs.Ytpoibjmkbljblaa.fnExactMixVectors
