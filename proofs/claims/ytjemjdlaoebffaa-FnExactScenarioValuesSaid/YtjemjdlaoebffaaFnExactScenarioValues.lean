/- ScenarioValues of the program and of the model agree at all lists of lists of jobs, lists and numbers of objectives, the arguments are left as they were, what is returned is memory of its own at each call, and the law's function returns true. No condition. -/
import Derived.Test.YtjemjdlaoebffaaRows
import Derived.Test.YtjemjdlaoebffaaBase
import Derived.Test.YtjemjdlaoebffaaFacts
import Derived.Test.YtjemjdlaoebffaaScP
import Derived.WalkKit
import Derived.ProofKit
import Derived.HandedShaped
import Derived.OpenShut
import Derived.ShutString
namespace Go.Proofs.Ytjemjdlaoebffaa.fnExactScenarioValues
open Go.ChangeShapes Go.WideShapes Go.ChangeAt Go.RowKit Go.WideMaps Go.WideElems
open Go.ChangeMaps (open_string shut_string)
set_option linter.unusedVariables false

theorem own : ownKnob Try.prog.godebug = none := by kernel_rfl
theorem laidOut : laidOutB Try.prog = true := fact_laid
theorem closed : joinedFacts Try.prog 8 Try.f8 Rows.fnExactScenarioValuesSpec Rows.fnExactScenarioValuesRow = true := by
  unfold joinedFacts
  exact (and_t (and_t (and_t (and_t (and_t (and_t (and_t (and_t (and_t (and_t (and_t (and_t (and_t (and_t (and_t (and_t (and_t (and_t (and_t (and_t (and_t (and_t (and_t (and_t (and_t (and_t (and_t (and_t (and_t (and_t (and_t (by kernel_rfl) fact_laid) fact_maps) (by kernel_rfl)) (by kernel_rfl)) (by kernel_rfl)) (by kernel_rfl)) (by kernel_rfl)) (by kernel_rfl)) (by kernel_rfl)) (by kernel_rfl)) (by kernel_rfl)) (by kernel_rfl)) (by kernel_rfl)) (by kernel_rfl)) (by kernel_rfl)) (by kernel_rfl)) (by kernel_rfl)) (by kernel_rfl)) (by kernel_rfl)) (by kernel_rfl)) (by kernel_rfl)) (by kernel_rfl)) (by kernel_rfl)) fact_heard) fact_enter) fact_lifts) fact_make) (by kernel_rfl)) (by kernel_rfl)) (by kernel_rfl)) (by kernel_rfl))



set_option maxRecDepth 100000 in
set_option maxHeartbeats 4000000 in
/-- THE WALK: the law's function returns true and leaves what was there as it was. -/
theorem walk (a0 : Option Addr) (l0 c0 : Nat) (z0 : List (List J)) (a1 : Option Addr) (l1 c1 : Nat) (z1 : List Int) (a2 : Int) (w2 : (Lit.int .i64 a2).wf = true) (w : World) (w0 : IsJobSSA w a0 l0 c0 z0) (w1 : IsInts .i64 w a1 l1 c1 z1)  :
    Calls Try.prog 8 #[.slice a0 l0 c0, .slice a1 l1 c1, .int .i64 a2] w fun e w' => e = .returned (.bool true) ∧ Below w.heap.size w w' := by
  obtain ⟨rfl, hlc0, hcm0, hr0, hw0⟩ := w0
  have hm0 : z0.length ≤ maxLen := by omega
  have HR0 := Lib.hid hr0
  have HW0 := Lib.hid (fun xs hx => (hw0 xs hx).1)
  clear hr0 hw0
  obtain ⟨o1, rfl, hr1, hm1, _⟩ := w1.row
  have HR1 := Lib.hid hr1
  clear hr1
  have hL0 := svR_len z0 o1 a2
  by_cases hsz1 : 1048576 < o1.length
  · go_enter Try.func8, Try.ntmps8
    go_wp2
    go_ret
    exact ⟨rfl, Below.refl _ _⟩
  · have hsz1' : o1.length ≤ 1048576 := by omega
    go_enter Try.func8, Try.ntmps8
    go_wp2_with fail
    refine (szJobSS_any a0 _ c0 z0 _ _ rfl HR0.out hm0 HW0.out (by omega) (by omega)).mono ?_
    rintro e _ ⟨⟨q0, rfl, hq0, hn0⟩ | rfl, rfl⟩
    · skip
      go_wp2_with fail
      refine (toJobSS_seg _ _ _ z0 _ rfl HR0.out (by omega) (by omega)).mono ?_
      rintro e v1 ⟨g1, rfl, hs1, hb1⟩
      have HB1 := Lib.hid (hb1)
      have hz1 := hb1.size
      clear hb1
      have S_t0 := Lib.hid hs1
      clear hs1
      go_wp2_with fail
      refine (toIntS_seg _ _ o1 _ (HR1.out.below HB1.out) (by omega)).mono ?_
      rintro e v2 ⟨g2, rfl, hs2, hb2⟩
      have HB2 := Lib.hid (HB1.out.trans (hb2.mono HB1.out.size))
      have hz2 := hb2.size
      have S_t0_2 := Lib.hid (S_t0.out.below hb2)
      clear HB1 S_t0 hb2
      have S_t1 := Lib.hid hs2
      clear hs2
      go_wp2_with fail
      refine (spec_ScenarioValues _ _ _ _ z0 o1 a2 _ S_t0_2.out.row S_t1.out.row ⟨by omega, by omega⟩ (by omega)).mono ?_
      rintro e v3 ⟨A3_0, c3_0, rfl, hs3_0, hb3⟩
      clear S_t0_2
      clear S_t1
      have HB3 := Lib.hid (HB2.out.trans (hb3.mono HB2.out.size))
      have hz3 := hb3.size
      clear HB2 hb3
      have S_w0 := Lib.hid hs3_0
      clear hs3_0
      go_wp2_with fail
      refine (toJobSS_seg _ _ _ z0 _ rfl (HR0.out.below HB3.out) (by omega) (by omega)).mono ?_
      rintro e v4 ⟨g4, rfl, hs4, hb4⟩
      have HB4 := Lib.hid (HB3.out.trans (hb4.mono HB3.out.size))
      have hz4 := hb4.size
      have S_w0_4 := Lib.hid (S_w0.out.below hb4)
      clear HB3 S_w0 hb4
      have S_x0 := Lib.hid hs4
      clear hs4
      go_wp2_with fail
      refine (toIntS_seg _ _ o1 _ (HR1.out.below HB4.out) (by omega)).mono ?_
      rintro e v5 ⟨g5, rfl, hs5, hb5⟩
      have HB5 := Lib.hid (HB4.out.trans (hb5.mono HB4.out.size))
      have hz5 := hb5.size
      have S_w0_5 := Lib.hid (S_w0_4.out.below hb5)
      have S_x0_5 := Lib.hid (S_x0.out.below hb5)
      clear HB4 S_w0_4 S_x0 hb5
      have S_x1 := Lib.hid hs5
      clear hs5
      go_wp2_with fail
      refine (impl_ScenarioValues _ _ _ _ z0 o1 a2 _ S_x0_5.out.row S_x1.out.row ⟨by omega, by omega⟩ (by omega)).mono ?_
      rintro e v6 ⟨A6_0, c6_0, rfl, hs6_0, hb6⟩
      have HB6 := Lib.hid (HB5.out.trans (hb6.mono HB5.out.size))
      have hz6 := hb6.size
      have S_w0_6 := Lib.hid (S_w0_5.out.below hb6)
      have S_x0_6 := Lib.hid (S_x0_5.out.below hb6)
      have S_x1_6 := Lib.hid (S_x1.out.below hb6)
      clear HB5 S_w0_5 S_x0_5 S_x1 hb6
      have S_g0 := Lib.hid hs6_0
      clear hs6_0
      go_wp2_with fail
      refine (eqIntS_seg _ _ _ _ (svR z0 o1 a2).1 _ S_g0.out.row S_w0_6.out.row (by omega)).mono ?_
      rintro e v7 ⟨rfl, hb7⟩
      have HB7 := Lib.hid (HB6.out.trans (hb7.mono HB6.out.size))
      have hz7 := hb7.size
      have S_w0_7 := Lib.hid (S_w0_6.out.below hb7)
      have S_x0_7 := Lib.hid (S_x0_6.out.below hb7)
      have S_x1_7 := Lib.hid (S_x1_6.out.below hb7)
      have S_g0_7 := Lib.hid (S_g0.out.below hb7)
      clear HB6 S_w0_6 S_x0_6 S_x1_6 S_g0 hb7
      go_wp2_with fail
      refine (toJobSS_seg _ _ _ z0 _ rfl (HR0.out.below HB7.out) (by omega) (by omega)).mono ?_
      rintro e v8 ⟨g8, rfl, hs8, hb8⟩
      have HB8 := Lib.hid (HB7.out.trans (hb8.mono HB7.out.size))
      have hz8 := hb8.size
      have S_w0_8 := Lib.hid (S_w0_7.out.below hb8)
      have S_x0_8 := Lib.hid (S_x0_7.out.below hb8)
      have S_x1_8 := Lib.hid (S_x1_7.out.below hb8)
      have S_g0_8 := Lib.hid (S_g0_7.out.below hb8)
      clear HB7 S_w0_7 S_x0_7 S_x1_7 S_g0_7 hb8
      have S_t7 := Lib.hid hs8
      clear hs8
      go_wp2_with fail
      refine (eqJobSS_seg _ _ _ _ _ z0 _ rfl S_x0_8.out.row S_t7.out.row ⟨by omega, by omega⟩).mono ?_
      rintro e v9 ⟨rfl, hb9⟩
      have HB9 := Lib.hid (HB8.out.trans (hb9.mono HB8.out.size))
      have hz9 := hb9.size
      have S_w0_9 := Lib.hid (S_w0_8.out.below hb9)
      have S_x0_9 := Lib.hid (S_x0_8.out.below hb9)
      have S_x1_9 := Lib.hid (S_x1_8.out.below hb9)
      have S_g0_9 := Lib.hid (S_g0_8.out.below hb9)
      have S_t7_9 := Lib.hid (S_t7.out.below hb9)
      clear HB8 S_w0_8 S_x0_8 S_x1_8 S_g0_8 S_t7 hb9
      clear S_t7_9
      go_wp2_with fail
      refine (toIntS_seg _ _ o1 _ (HR1.out.below HB9.out) (by omega)).mono ?_
      rintro e v10 ⟨g10, rfl, hs10, hb10⟩
      have HB10 := Lib.hid (HB9.out.trans (hb10.mono HB9.out.size))
      have hz10 := hb10.size
      have S_w0_10 := Lib.hid (S_w0_9.out.below hb10)
      have S_x0_10 := Lib.hid (S_x0_9.out.below hb10)
      have S_x1_10 := Lib.hid (S_x1_9.out.below hb10)
      have S_g0_10 := Lib.hid (S_g0_9.out.below hb10)
      clear HB9 S_w0_9 S_x0_9 S_x1_9 S_g0_9 hb10
      have S_t9 := Lib.hid hs10
      clear hs10
      go_wp2_with fail
      refine (eqIntS_seg _ _ _ _ o1 _ S_x1_10.out.row S_t9.out.row (by omega)).mono ?_
      rintro e v11 ⟨rfl, hb11⟩
      have HB11 := Lib.hid (HB10.out.trans (hb11.mono HB10.out.size))
      have hz11 := hb11.size
      have S_w0_11 := Lib.hid (S_w0_10.out.below hb11)
      have S_x0_11 := Lib.hid (S_x0_10.out.below hb11)
      have S_x1_11 := Lib.hid (S_x1_10.out.below hb11)
      have S_g0_11 := Lib.hid (S_g0_10.out.below hb11)
      have S_t9_11 := Lib.hid (S_t9.out.below hb11)
      clear HB10 S_w0_10 S_x0_10 S_x1_10 S_g0_10 S_t9 hb11
      clear S_t9_11
      go_wp2_with fail
      refine (markJobSS_seg _ _ _ _ _ _ z0 _ S_x0_11.out (by omega) (by omega) ⟨by omega, by omega⟩).mono ?_
      rintro e v12 ⟨rfl, ht12⟩
      have HB12 := Lib.hid (HB11.out.trans (ht12.below (by omega) (by omega)))
      have hz12 := ht12.size
      have S_w0_12 := Lib.hid (S_w0_11.out.keep ht12 (by omega))
      have S_x1_12 := Lib.hid (S_x1_11.out.keep ht12 (by omega))
      have S_g0_12 := Lib.hid (S_g0_11.out.keep ht12 (by omega))
      clear HB11 S_w0_11 S_x1_11 S_g0_11 ht12
      clear S_x0_11
      go_wp2_with fail
      refine (markIntS_seg _ _ _ _ _ _ _ _ S_x1_12.out (by omega) (by omega) (by omega)).mono ?_
      rintro e v13 ⟨rfl, hs13, ht13⟩
      have HB13 := Lib.hid (HB12.out.trans (ht13.below (by omega) (by omega)))
      have hz13 := ht13.size
      have S_w0_13 := Lib.hid (S_w0_12.out.keep ht13 (by omega))
      have S_g0_13 := Lib.hid (S_g0_12.out.keep ht13 (by omega))
      clear HB12 S_w0_12 S_g0_12 ht13
      clear S_x1_12
      have S_x1_13 := Lib.hid hs13
      clear hs13
      go_wp2_with fail
      refine (eqIntS_seg _ _ _ _ (svR z0 o1 a2).1 _ S_g0_13.out.row S_w0_13.out.row (by omega)).mono ?_
      rintro e v14 ⟨rfl, hb14⟩
      clear S_x1_13
      have HB14 := Lib.hid (HB13.out.trans (hb14.mono HB13.out.size))
      have hz14 := hb14.size
      have S_w0_14 := Lib.hid (S_w0_13.out.below hb14)
      have S_g0_14 := Lib.hid (S_g0_13.out.below hb14)
      clear HB13 S_w0_13 S_g0_13 hb14
      go_wp2_with fail
      refine (markIntS_t _ _ _ _ _ _ _ _ S_g0_14.out (by omega) (by omega) (by omega)).mono ?_
      rintro e v15 ⟨rfl, hs15, ht15⟩
      have HB15 := Lib.hid (HB14.out.trans (ht15.below (by omega) (by omega)))
      have hz15 := ht15.size
      have S_w0_15 := Lib.hid (S_w0_14.out.keep ht15 (by omega))
      clear HB14 S_w0_14 ht15
      clear S_g0_14
      have S_g0_15 := Lib.hid hs15
      clear hs15
      go_wp2_with fail
      refine (heldIntS_seg _ _ _ _ _ S_g0_15.out.row (by omega) (by omega) (by omega)).mono ?_
      rintro e _ ⟨rfl, rfl⟩
      go_wp2_with fail
      refine (toJobSS_seg _ _ _ z0 _ rfl (HR0.out.below HB15.out) (by omega) (by omega)).mono ?_
      rintro e v16 ⟨g16, rfl, hs16, hb16⟩
      have HB16 := Lib.hid (HB15.out.trans (hb16.mono HB15.out.size))
      have hz16 := hb16.size
      have S_w0_16 := Lib.hid (S_w0_15.out.below hb16)
      have S_g0_16 := Lib.hid (S_g0_15.out.below hb16)
      clear HB15 S_w0_15 S_g0_15 hb16
      have S_t15 := Lib.hid hs16
      clear hs16
      go_wp2_with fail
      refine (toIntS_seg _ _ o1 _ (HR1.out.below HB16.out) (by omega)).mono ?_
      rintro e v17 ⟨g17, rfl, hs17, hb17⟩
      have HB17 := Lib.hid (HB16.out.trans (hb17.mono HB16.out.size))
      have hz17 := hb17.size
      have S_w0_17 := Lib.hid (S_w0_16.out.below hb17)
      have S_g0_17 := Lib.hid (S_g0_16.out.below hb17)
      have S_t15_17 := Lib.hid (S_t15.out.below hb17)
      clear HB16 S_w0_16 S_g0_16 S_t15 hb17
      have S_t16 := Lib.hid hs17
      clear hs17
      go_wp2_with fail
      refine (impl_ScenarioValues _ _ _ _ z0 o1 a2 _ S_t15_17.out.row S_t16.out.row ⟨by omega, by omega⟩ (by omega)).mono ?_
      rintro e v18 ⟨A18_0, c18_0, rfl, hs18_0, hb18⟩
      clear S_t15_17
      clear S_t16
      have HB18 := Lib.hid (HB17.out.trans (hb18.mono HB17.out.size))
      have hz18 := hb18.size
      have S_w0_18 := Lib.hid (S_w0_17.out.below hb18)
      have S_g0_18 := Lib.hid (S_g0_17.out.below hb18)
      clear HB17 S_w0_17 S_g0_17 hb18
      have S_h0 := Lib.hid hs18_0
      clear hs18_0
      go_wp2_with fail
      refine (eqIntS_seg _ _ _ _ (svR z0 o1 a2).1 _ S_h0.out.row S_w0_18.out.row (by omega)).mono ?_
      rintro e v19 ⟨rfl, hb19⟩
      have HB19 := Lib.hid (HB18.out.trans (hb19.mono HB18.out.size))
      have hz19 := hb19.size
      have S_w0_19 := Lib.hid (S_w0_18.out.below hb19)
      have S_g0_19 := Lib.hid (S_g0_18.out.below hb19)
      have S_h0_19 := Lib.hid (S_h0.out.below hb19)
      clear HB18 S_w0_18 S_g0_18 S_h0 hb19
      go_wp2_with fail
      refine (heldIntS_seg _ _ _ _ _ S_g0_19.out.row (by omega) (by omega) (by omega)).mono ?_
      rintro e _ ⟨rfl, rfl⟩
      go_wp2
      go_ret
      exact ⟨rfl, HB19.out⟩
    · go_wp2
      go_ret
      exact ⟨rfl, Below.refl _ _⟩

set_option maxRecDepth 100000 in
/-- What the walk gives, for every argument that can be read and every world. -/
theorem contract (H : Type) (enc : TypeId × Value → H) (W : World) (base : Nat) (args : Array Value) (ds gs : List (DataW H)) (before : List MemPlace)
    (hval : ∀ (j : Nat) t v, Try.f8.params[j]? = some t → args[j]? = some v → Value.okWide Try.prog W .any base t v)
    (hW : DataW.Whole enc Try.prog Try.f8.params.toList Rows.fnExactScenarioValuesSpec.vars false W args.toList ds gs before) (hsh : W.ShapedOpen Try.prog) :
    Calls Try.prog 8 args W fun e W' => ∃ v, e = .returned v ∧ Rows.fnExactScenarioValuesSpec.post enc Try.prog Try.f8 false true false false W args v W' := by
  have hW' := hW
  obtain ⟨p, q, hA0, hV, rfl, hfz, hnd⟩ := hW
  have hA : DataW.TrodAll enc Try.prog W 0 (fun _ => true) true Try.f8.params.toList args.toList ds p := hA0
  rw [Try.params8] at hA hval
  obtain ⟨v0, vs0, d0, ds0, p0, q0, hargs, rfl, rfl, h0, r0⟩ := trodAll_cons hA
  obtain ⟨v1, vs1, d1, ds1, p1, q1, rfl, rfl, rfl, h1, r1⟩ := trodAll_cons r0
  obtain ⟨v2, vs2, d2, ds2, p2, q2, rfl, rfl, rfl, h2, r2⟩ := trodAll_cons r1
  obtain ⟨rfl, rfl, rfl⟩ := trodAll_nil r2
  obtain rfl : args = #[v0, v1, v2] := by cases args; simp_all
  obtain ⟨rfl, rfl⟩ := trodVars_none hV
  have k0 := h0
  have lt0 : ∀ x ∈ p0, x.block < W.heap.size := by obtain ⟨m, hm⟩ := k0; exact DataW.trod_lt m _ _ _ hm
  have k1 := h1
  have lt1 : ∀ x ∈ p1, x.block < W.heap.size := by obtain ⟨m, hm⟩ := k1; exact DataW.trod_lt m _ _ _ hm
  have k2 := h2
  have lt2 : ∀ x ∈ p2, x.block < W.heap.size := by obtain ⟨m, hm⟩ := k2; exact DataW.trod_lt m _ _ _ hm
  obtain ⟨a0, l0, c0, rfl⟩ := okWide_slice Try.underlying56 (hval 0 56 v0 rfl rfl)
  obtain ⟨z0, w0⟩ : ∃ zs, IsJobSSA W a0 l0 c0 zs := by
    obtain ⟨fuel, hf⟩ := h0
    obtain ⟨A', l', c', js, hcs, hj⟩ := open_JobSS Try.underlying56 Try.underlying45 Try.underlying97 (by kernel_rfl) (by kernel_rfl) (by kernel_rfl) Try.underlying3 Try.underlying3 Try.underlying3 Try.underlying3 hf
    simp [Value.cells] at hcs
    obtain ⟨rfl, rfl, rfl⟩ := hcs
    exact ⟨js, hj⟩
  obtain ⟨a1, l1, c1, rfl⟩ := okWide_slice Try.underlying39 (hval 1 39 v1 rfl rfl)
  obtain ⟨z1, w1⟩ : ∃ zs, IsInts .i64 W a1 l1 c1 zs := by
    obtain ⟨fuel, hf⟩ := h1
    rcases open_ints Try.underlying39 Try.underlying3 (by kernel_rfl) hf with ⟨hcs, _⟩ | ⟨x, l, c, zs, hcs, _, hl, hm, hz, _, hcell, hwz⟩
    · simp [Value.cells] at hcs
      obtain ⟨rfl, rfl, rfl⟩ := hcs
      exact ⟨[], .inl ⟨rfl, rfl, rfl, rfl⟩⟩
    · simp [Value.cells] at hcs
      obtain ⟨rfl, rfl, rfl⟩ := hcs
      exact ⟨zs, .inr ⟨_, rfl, hl, hm, by simpa using hz, hcell, hwz⟩⟩
  obtain ⟨a2, rfl, rfl, rfl, w2⟩ := open_int Try.underlying3 (hval 2 3 v2 rfl rfl) h2

  clear hA0
  refine (walk a0 l0 c0 z0 a1 l1 c1 z1 a2 w2 W w0 w1 ).mono fun e W' ⟨he, bel⟩ => ?_
  subst he
  exact ⟨_, rfl, _, _, _, [], _, [], hW', trodAll_mk1 (shut_bool Try.underlying4 _), (trodAll_cons_mk (Below.trod laidOut (by kernel_rfl) (of_decide_eq_true (by kernel_rfl)) k0 bel lt0) (trodAll_cons_mk (Below.trod laidOut (by kernel_rfl) (of_decide_eq_true (by kernel_rfl)) k1 bel lt1) (trodAll_cons_mk (Below.trod laidOut (by kernel_rfl) (of_decide_eq_true (by kernel_rfl)) k2 bel lt2) trodAll_mk0))), rfl, bel.frame _, fun h => by cases h⟩

set_option maxRecDepth 100000 in
theorem lifted (os : Os) (started : os.Started) (H : Type) (enc : TypeId × Value → H) :
    ReturnsInHanded {} Try.checked os 8 .any (Rows.fnExactScenarioValuesSpec.pre6 enc Try.prog Try.f8 Rows.fnExactScenarioValuesRow.domain false) (Rows.fnExactScenarioValuesSpec.post enc Try.prog Try.f8 false true false false) := by
  refine returnsInHanded_of_change_shaped (C := Try.checked) own started (by kernel_rfl) Try.func8
    (ChangeSpec.witness6 (enc := enc) (C := Try.checked) false ⟨#[], #[.slice none 0 0, .slice none 0 0, .int .i64 0], []⟩ 8 (by kernel_rfl) (by kernel_rfl) (by kernel_rfl) (by kernel_rfl)) ?_
  intro W base args ds gs before hval hW _ _ hsh _
  exact contract H enc W base args ds gs before hval hW hsh

theorem proved : Rows.FnExactScenarioValuesSaid :=
  OpenClaim.holds_of_wide 8 Try.f8 rfl rfl rfl rfl rfl rfl rfl ⟨rfl, rfl, rfl, rfl, rfl⟩ rfl rfl rfl rfl rfl (by kernel_rfl) Try.func8 closed
    (of_decide_eq_true (by kernel_rfl)) (by unfold Func.isWrapper; first | (rw [if_pos (by decide +kernel)]; kernel_rfl) | (rw [if_neg (by decide +kernel)]; exact ⟨rfl, rfl⟩))
    (fun os started H enc _ => lifted os started H enc)
end Go.Proofs.Ytjemjdlaoebffaa.fnExactScenarioValues
