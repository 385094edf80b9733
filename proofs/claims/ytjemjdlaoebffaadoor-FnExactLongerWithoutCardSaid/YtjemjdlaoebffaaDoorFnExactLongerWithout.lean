/- LongerWithout of the program and of the model agree at all jobs, numbers of machines, lists of pairs and lists, the arguments are left as they were, and the law's function returns true. No condition but the row's own list of the library's tables (the card ties them). -/
import Derived.Test.YtjemjdlaoebffaaDoorCards
import Derived.Test.YtjemjdlaoebffaaDoorTie
import Derived.Deep.DeepHandedRow
import Derived.Lib.LaidTab
import Derived.Test.YtjemjdlaoebffaaDoorBase
import Derived.Test.YtjemjdlaoebffaaDoorKw2
import Derived.Test.YtjemjdlaoebffaaDoorPairs
import Derived.Test.YtjemjdlaoebffaaDoorArgJ
import Derived.Test.YtjemjdlaoebffaaDoorSegH
import Derived.WalkKit
import Derived.ProofKit
import Derived.HandedShaped
import Derived.OpenShut
import Derived.ShutString
namespace Go.Proofs.YtjemjdlaoebffaaDoor.fnExactLongerWithout
open Go.ChangeShapes Go.WideShapes Go.ChangeAt Go.RowKit Go.WideMaps Go.WideElems
open Go.ChangeMaps (open_string shut_string)
set_option linter.unusedVariables false

theorem own : ownKnob Tryd.prog.godebug = none := by kernel_rfl
theorem laidOut : laidOutB Tryd.prog = true := by kernel_rfl



set_option maxRecDepth 100000 in
set_option maxHeartbeats 4000000 in
/-- THE WALK: the law's function returns true and leaves what was there as it was. -/
theorem walk (a0 : Option Addr) (l0 c0 : Nat) (z0 : List J) (a1 : Int) (w1 : (Lit.int .i64 a1).wf = true) (a2 : Option Addr) (l2 c2 : Nat) (z2 : List Pr) (a3 : Option Addr) (l3 c3 : Nat) (z3 : List Int) (w : World) (w0 : IsJobsA w a0 l0 c0 z0) (w2 : IsPairsA w a2 l2 c2 z2) (w3 : IsInts .i64 w a3 l3 c3 z3) (htz : TzTab w) :
    Calls Tryd.prog 4 #[.slice a0 l0 c0, .int .i64 a1, .slice a2 l2 c2, .slice a3 l3 c3] w fun e w' => e = .returned (.bool true) ∧ Below w.heap.size w w' := by
  obtain ⟨rfl, hlc0, hcm0, hr0, _⟩ := w0
  have hm0 : z0.length ≤ maxLen := by omega
  have HR0 := Lib.hid hr0
  clear hr0
  obtain ⟨rfl, hlc2, hcm2, hr2, _⟩ := w2
  have hm2 : z2.length ≤ maxLen := by omega
  have HR2 := Lib.hid hr2
  clear hr2
  obtain ⟨o3, rfl, hr3, hm3, _⟩ := w3.row
  have HR3 := Lib.hid hr3
  clear hr3
  have HTZ := Lib.hid htz
  clear htz
  by_cases hsz3 : 1048576 < o3.length
  · go_enter Tryd.func4, Tryd.ntmps4
    go_wp2
    go_ret
    exact ⟨rfl, Below.refl _ _⟩
  · have hsz3' : o3.length ≤ 1048576 := by omega
    go_enter Tryd.func4, Tryd.ntmps4
    go_wp2_with fail
    refine (szJobS_any a0 z0.length c0 _ hm0).mono ?_
    rintro e _ ⟨⟨rfl, hn0⟩ | ⟨rfl, hn0⟩, rfl⟩
    · skip
      go_wp2_with fail
      refine (szIntA2S_any a2 z2.length c2 _ _ hm2 (by omega) (by omega)).mono ?_
      rintro e _ ⟨⟨rfl, hn2⟩ | ⟨rfl, hn2⟩, rfl⟩
      · skip
        go_wp2_with fail
        refine (toJobS_seg _ _ z0 _ HR0.out (by omega)).mono ?_
        rintro e v1 ⟨g1, rfl, hs1, hb1⟩
        have HB1 := Lib.hid (hb1)
        have hz1 := hb1.size
        clear hb1
        have S_t0 := Lib.hid hs1
        clear hs1
        go_wp2_with fail
        refine (toIntA2S_seg _ _ z2 _ (HR2.out.below HB1.out) (by omega)).mono ?_
        rintro e v2 ⟨g2, rfl, hs2, hb2⟩
        have HB2 := Lib.hid (HB1.out.trans (hb2.mono HB1.out.size))
        have hz2 := hb2.size
        have S_t0_2 := Lib.hid (S_t0.out.below hb2)
        clear HB1 S_t0 hb2
        have S_t1 := Lib.hid hs2
        clear hs2
        go_wp2_with fail
        refine (toIntS_seg _ _ o3 _ (HR3.out.below HB2.out) (by omega)).mono ?_
        rintro e v3 ⟨g3, rfl, hs3, hb3⟩
        have HB3 := Lib.hid (HB2.out.trans (hb3.mono HB2.out.size))
        have hz3 := hb3.size
        have S_t0_3 := Lib.hid (S_t0_2.out.below hb3)
        have S_t1_3 := Lib.hid (S_t1.out.below hb3)
        clear HB2 S_t0_2 S_t1 hb3
        have S_t2 := Lib.hid hs3
        clear hs3
        go_wp2_with fail
        refine (spec_LongerWithout _ _ _ _ _ _ z0 a1 z2 o3 _ S_t0_3.out.row S_t1_3.out.row S_t2.out.row (by omega) (by omega) (by omega) S_t1_3.out.nlec).mono ?_
        rintro e v4 ⟨rfl, hb4⟩
        clear S_t0_3
        clear S_t1_3
        clear S_t2
        have HB4 := Lib.hid (HB3.out.trans (hb4.mono HB3.out.size))
        have hz4 := hb4.size
        clear HB3 hb4
        have hbx5 := (Below.refl v4.heap.size v4).alloc (Nat.le_refl _) (.cells #[.int .i64 (lwoR z0 a1 z2 o3).1.1, .int .i64 (lwoR z0 a1 z2 o3).1.2] 37)
        have ABw0 := Lib.hid (BlockIs.new v4 37 #[.int .i64 (lwoR z0 a1 z2 o3).1.1, .int .i64 (lwoR z0 a1 z2 o3).1.2])
        have HB5 := Lib.hid (HB4.out.trans (hbx5.mono HB4.out.size))
        have hz5 := hbx5.size
        clear HB4 hbx5
        have Aboxw0a := ABw0.out.cell 0
        have Aboxw0b := ABw0.out.cell 1
        simp only [List.getElem?_toArray, List.getElem?_cons_zero, List.getElem?_cons_succ] at Aboxw0a Aboxw0b
        go_wp2_with fail
        refine (toJobS_seg _ _ z0 _ (HR0.out.below HB5.out) (by omega)).mono ?_
        rintro e v6 ⟨g6, rfl, hs6, hb6⟩
        clear Aboxw0a Aboxw0b
        have HB6 := Lib.hid (HB5.out.trans (hb6.mono HB5.out.size))
        have hz6 := hb6.size
        have ABw0_6 := Lib.hid (ABw0.out.below hb6)
        clear HB5 ABw0 hb6
        have S_x0 := Lib.hid hs6
        clear hs6
        have Aboxw0a := ABw0_6.out.cell 0
        have Aboxw0b := ABw0_6.out.cell 1
        simp only [List.getElem?_toArray, List.getElem?_cons_zero, List.getElem?_cons_succ] at Aboxw0a Aboxw0b
        go_wp2_with fail
        refine (toIntA2S_seg _ _ z2 _ (HR2.out.below HB6.out) (by omega)).mono ?_
        rintro e v7 ⟨g7, rfl, hs7, hb7⟩
        clear Aboxw0a Aboxw0b
        have HB7 := Lib.hid (HB6.out.trans (hb7.mono HB6.out.size))
        have hz7 := hb7.size
        have ABw0_7 := Lib.hid (ABw0_6.out.below hb7)
        have S_x0_7 := Lib.hid (S_x0.out.below hb7)
        clear HB6 ABw0_6 S_x0 hb7
        have S_x2 := Lib.hid hs7
        clear hs7
        have Aboxw0a := ABw0_7.out.cell 0
        have Aboxw0b := ABw0_7.out.cell 1
        simp only [List.getElem?_toArray, List.getElem?_cons_zero, List.getElem?_cons_succ] at Aboxw0a Aboxw0b
        go_wp2_with fail
        refine (toIntS_seg _ _ o3 _ (HR3.out.below HB7.out) (by omega)).mono ?_
        rintro e v8 ⟨g8, rfl, hs8, hb8⟩
        clear Aboxw0a Aboxw0b
        have HB8 := Lib.hid (HB7.out.trans (hb8.mono HB7.out.size))
        have hz8 := hb8.size
        have ABw0_8 := Lib.hid (ABw0_7.out.below hb8)
        have S_x0_8 := Lib.hid (S_x0_7.out.below hb8)
        have S_x2_8 := Lib.hid (S_x2.out.below hb8)
        clear HB7 ABw0_7 S_x0_7 S_x2 hb8
        have S_x3 := Lib.hid hs8
        clear hs8
        have Aboxw0a := ABw0_8.out.cell 0
        have Aboxw0b := ABw0_8.out.cell 1
        simp only [List.getElem?_toArray, List.getElem?_cons_zero, List.getElem?_cons_succ] at Aboxw0a Aboxw0b
        go_wp2_with fail
        refine (impl_LongerWithout _ _ _ _ _ _ z0 a1 z2 o3 _ S_x0_8.out.row S_x2_8.out.row S_x3.out.row (by omega) (by omega) (by omega) S_x2_8.out.nlec (HTZ.out.below HB8.out)).mono ?_
        rintro e v9 ⟨rfl, hb9⟩
        clear Aboxw0a Aboxw0b
        have HB9 := Lib.hid (HB8.out.trans (hb9.mono HB8.out.size))
        have hz9 := hb9.size
        have ABw0_9 := Lib.hid (ABw0_8.out.below hb9)
        have S_x0_9 := Lib.hid (S_x0_8.out.below hb9)
        have S_x2_9 := Lib.hid (S_x2_8.out.below hb9)
        have S_x3_9 := Lib.hid (S_x3.out.below hb9)
        clear HB8 ABw0_8 S_x0_8 S_x2_8 S_x3 hb9
        have hbx10 := (Below.refl v9.heap.size v9).alloc (Nat.le_refl _) (.cells #[.int .i64 (lwoR z0 a1 z2 o3).1.1, .int .i64 (lwoR z0 a1 z2 o3).1.2] 37)
        have ABg0 := Lib.hid (BlockIs.new v9 37 #[.int .i64 (lwoR z0 a1 z2 o3).1.1, .int .i64 (lwoR z0 a1 z2 o3).1.2])
        have HB10 := Lib.hid (HB9.out.trans (hbx10.mono HB9.out.size))
        have hz10 := hbx10.size
        have ABw0_10 := Lib.hid (ABw0_9.out.below hbx10)
        have S_x0_10 := Lib.hid (S_x0_9.out.below hbx10)
        have S_x2_10 := Lib.hid (S_x2_9.out.below hbx10)
        have S_x3_10 := Lib.hid (S_x3_9.out.below hbx10)
        clear HB9 ABw0_9 S_x0_9 S_x2_9 S_x3_9 hbx10
        have Aboxw0a := ABw0_10.out.cell 0
        have Aboxw0b := ABw0_10.out.cell 1
        have Aboxg0a := ABg0.out.cell 0
        have Aboxg0b := ABg0.out.cell 1
        simp only [List.getElem?_toArray, List.getElem?_cons_zero, List.getElem?_cons_succ] at Aboxw0a Aboxw0b Aboxg0a Aboxg0b
        go_wp2_with fail
        refine (eqIntA2_same (lwoR z0 a1 z2 o3).1 _).mono ?_
        rintro e v11 ⟨rfl, hb11⟩
        clear Aboxw0a Aboxw0b Aboxg0a Aboxg0b
        clear ABg0
        clear ABw0_10
        have HB11 := Lib.hid (HB10.out.trans (hb11.mono HB10.out.size))
        have hz11 := hb11.size
        have S_x0_11 := Lib.hid (S_x0_10.out.below hb11)
        have S_x2_11 := Lib.hid (S_x2_10.out.below hb11)
        have S_x3_11 := Lib.hid (S_x3_10.out.below hb11)
        clear HB10 S_x0_10 S_x2_10 S_x3_10 hb11
        go_wp2_with fail
        refine (toJobS_seg _ _ z0 _ (HR0.out.below HB11.out) (by omega)).mono ?_
        rintro e v12 ⟨g12, rfl, hs12, hb12⟩
        have HB12 := Lib.hid (HB11.out.trans (hb12.mono HB11.out.size))
        have hz12 := hb12.size
        have S_x0_12 := Lib.hid (S_x0_11.out.below hb12)
        have S_x2_12 := Lib.hid (S_x2_11.out.below hb12)
        have S_x3_12 := Lib.hid (S_x3_11.out.below hb12)
        clear HB11 S_x0_11 S_x2_11 S_x3_11 hb12
        have S_t11 := Lib.hid hs12
        clear hs12
        go_wp2_with fail
        refine (eqJobS_same _ _ _ _ z0 _ S_x0_12.out.row S_t11.out.row (by omega)).mono ?_
        rintro e v13 ⟨rfl, hb13⟩
        have HB13 := Lib.hid (HB12.out.trans (hb13.mono HB12.out.size))
        have hz13 := hb13.size
        have S_x0_13 := Lib.hid (S_x0_12.out.below hb13)
        have S_x2_13 := Lib.hid (S_x2_12.out.below hb13)
        have S_x3_13 := Lib.hid (S_x3_12.out.below hb13)
        have S_t11_13 := Lib.hid (S_t11.out.below hb13)
        clear HB12 S_x0_12 S_x2_12 S_x3_12 S_t11 hb13
        clear S_t11_13
        go_wp2_with fail
        refine (toIntA2S_seg _ _ z2 _ (HR2.out.below HB13.out) (by omega)).mono ?_
        rintro e v14 ⟨g14, rfl, hs14, hb14⟩
        clear S_x0_13
        have HB14 := Lib.hid (HB13.out.trans (hb14.mono HB13.out.size))
        have hz14 := hb14.size
        have S_x2_14 := Lib.hid (S_x2_13.out.below hb14)
        have S_x3_14 := Lib.hid (S_x3_13.out.below hb14)
        clear HB13 S_x2_13 S_x3_13 hb14
        have S_t13 := Lib.hid hs14
        clear hs14
        go_wp2_with fail
        refine (eqIntA2S_seg _ _ _ _ z2 _ S_x2_14.out.row S_t13.out.row (by omega)).mono ?_
        rintro e v15 ⟨rfl, hb15⟩
        have HB15 := Lib.hid (HB14.out.trans (hb15.mono HB14.out.size))
        have hz15 := hb15.size
        have S_x2_15 := Lib.hid (S_x2_14.out.below hb15)
        have S_x3_15 := Lib.hid (S_x3_14.out.below hb15)
        have S_t13_15 := Lib.hid (S_t13.out.below hb15)
        clear HB14 S_x2_14 S_x3_14 S_t13 hb15
        clear S_t13_15
        go_wp2_with fail
        refine (toIntS_seg _ _ o3 _ (HR3.out.below HB15.out) (by omega)).mono ?_
        rintro e v16 ⟨g16, rfl, hs16, hb16⟩
        clear S_x2_15
        have HB16 := Lib.hid (HB15.out.trans (hb16.mono HB15.out.size))
        have hz16 := hb16.size
        have S_x3_16 := Lib.hid (S_x3_15.out.below hb16)
        clear HB15 S_x3_15 hb16
        have S_t15 := Lib.hid hs16
        clear hs16
        go_wp2_with fail
        refine (eqIntS_seg _ _ _ _ o3 _ S_x3_16.out.row S_t15.out.row (by omega)).mono ?_
        rintro e v17 ⟨rfl, hb17⟩
        have HB17 := Lib.hid (HB16.out.trans (hb17.mono HB16.out.size))
        have hz17 := hb17.size
        have S_x3_17 := Lib.hid (S_x3_16.out.below hb17)
        have S_t15_17 := Lib.hid (S_t15.out.below hb17)
        clear HB16 S_x3_16 S_t15 hb17
        clear S_t15_17
        go_wp2
        go_ret
        exact ⟨rfl, HB17.out⟩
      · go_wp2
        go_ret
        exact ⟨rfl, Below.refl _ _⟩
    · go_wp2
      go_ret
      exact ⟨rfl, Below.refl _ _⟩

set_option maxRecDepth 100000 in
/-- What the walk gives, for every argument that can be read and every world. -/
theorem contract (H : Type) (enc : TypeId × Value → H) (W : World) (base : Nat) (args : Array Value) (ds gs : List (DataW H)) (before : List MemPlace)
    (hval : ∀ (j : Nat) t v, Tryd.f4.params[j]? = some t → args[j]? = some v → Value.okWide Tryd.prog W .any base t v)
    (hW : DataW.Whole enc Tryd.prog Tryd.f4.params.toList Rows.fnExactLongerWithoutSpec.vars false W args.toList ds gs before) (hsh : W.ShapedOpen Tryd.prog) (hL : laidMetH Tryd.prog Rows.fnExactLongerWithoutRow.laid W) :
    Calls Tryd.prog 4 args W fun e W' => ∃ v, e = .returned v ∧ Rows.fnExactLongerWithoutSpec.post enc Tryd.prog Tryd.f4 false true false false W args v W' := by
  have hW' := hW
  obtain ⟨p, q, hA0, hV, rfl, hfz, hnd⟩ := hW
  have hA : DataW.TrodAll enc Tryd.prog W 0 (fun _ => true) true Tryd.f4.params.toList args.toList ds p := hA0
  rw [Tryd.params4] at hA hval
  obtain ⟨v0, vs0, d0, ds0, p0, q0, hargs, rfl, rfl, h0, r0⟩ := trodAll_cons hA
  obtain ⟨v1, vs1, d1, ds1, p1, q1, rfl, rfl, rfl, h1, r1⟩ := trodAll_cons r0
  obtain ⟨v2, vs2, d2, ds2, p2, q2, rfl, rfl, rfl, h2, r2⟩ := trodAll_cons r1
  obtain ⟨v3, vs3, d3, ds3, p3, q3, rfl, rfl, rfl, h3, r3⟩ := trodAll_cons r2
  obtain ⟨rfl, rfl, rfl⟩ := trodAll_nil r3
  obtain rfl : args = #[v0, v1, v2, v3] := by cases args; simp_all
  obtain ⟨rfl, rfl⟩ := trodVars_none hV
  have k0 := h0
  have lt0 : ∀ x ∈ p0, x.block < W.heap.size := by obtain ⟨m, hm⟩ := k0; exact DataW.trod_lt m _ _ _ hm
  have k1 := h1
  have lt1 : ∀ x ∈ p1, x.block < W.heap.size := by obtain ⟨m, hm⟩ := k1; exact DataW.trod_lt m _ _ _ hm
  have k2 := h2
  have lt2 : ∀ x ∈ p2, x.block < W.heap.size := by obtain ⟨m, hm⟩ := k2; exact DataW.trod_lt m _ _ _ hm
  have k3 := h3
  have lt3 : ∀ x ∈ p3, x.block < W.heap.size := by obtain ⟨m, hm⟩ := k3; exact DataW.trod_lt m _ _ _ hm
  obtain ⟨a0, l0, c0, rfl⟩ := okWide_slice Tryd.underlying22 (hval 0 22 v0 rfl rfl)
  obtain ⟨z0, w0⟩ : ∃ zs, IsJobsA W a0 l0 c0 zs := by
    obtain ⟨fuel, hf⟩ := h0
    obtain ⟨A', l', c', js, hcs, hj⟩ := open_jobs Tryd.underlying22 Tryd.underlying66 (by kernel_rfl) (by kernel_rfl) Tryd.underlying3 Tryd.underlying3 Tryd.underlying3 Tryd.underlying3 hf
    simp [Value.cells] at hcs
    obtain ⟨rfl, rfl, rfl⟩ := hcs
    exact ⟨js, hj⟩
  obtain ⟨a1, rfl, rfl, rfl, w1⟩ := open_int Tryd.underlying3 (hval 1 3 v1 rfl rfl) h1
  obtain ⟨a2, l2, c2, rfl⟩ := okWide_slice Tryd.underlying35 (hval 2 35 v2 rfl rfl)
  obtain ⟨z2, w2⟩ : ∃ zs, IsPairsA W a2 l2 c2 zs := by
    obtain ⟨fuel, hf⟩ := h2
    obtain ⟨A', l', c', js, hcs, hj⟩ := open_pairs Tryd.underlying35 Tryd.underlying37 (by kernel_rfl) (by kernel_rfl) Tryd.underlying3 hf
    simp [Value.cells] at hcs
    obtain ⟨rfl, rfl, rfl⟩ := hcs
    exact ⟨js, hj⟩
  obtain ⟨a3, l3, c3, rfl⟩ := okWide_slice Tryd.underlying23 (hval 3 23 v3 rfl rfl)
  obtain ⟨z3, w3⟩ : ∃ zs, IsInts .i64 W a3 l3 c3 zs := by
    obtain ⟨fuel, hf⟩ := h3
    rcases open_ints Tryd.underlying23 Tryd.underlying3 (by kernel_rfl) hf with ⟨hcs, _⟩ | ⟨x, l, c, zs, hcs, _, hl, hm, hz, _, hcell, hwz⟩
    · simp [Value.cells] at hcs
      obtain ⟨rfl, rfl, rfl⟩ := hcs
      exact ⟨[], .inl ⟨rfl, rfl, rfl, rfl⟩⟩
    · simp [Value.cells] at hcs
      obtain ⟨rfl, rfl, rfl⟩ := hcs
      exact ⟨zs, .inr ⟨_, rfl, hl, hm, by simpa using hz, hcell, hwz⟩⟩
  have htz : TzTab W := tzTab_laid 1 hL (by kernel_rfl)
  clear hA0
  refine (walk a0 l0 c0 z0 a1 w1 a2 l2 c2 z2 a3 l3 c3 z3 W w0 w2 w3 htz).mono fun e W' ⟨he, bel⟩ => ?_
  subst he
  exact ⟨_, rfl, _, _, _, [], _, [], hW', trodAll_mk1 (shut_bool Tryd.underlying4 _), (trodAll_cons_mk (Below.trod laidOut (by kernel_rfl) (of_decide_eq_true (by kernel_rfl)) k0 bel lt0) (trodAll_cons_mk (Below.trod laidOut (by kernel_rfl) (of_decide_eq_true (by kernel_rfl)) k1 bel lt1) (trodAll_cons_mk (Below.trod laidOut (by kernel_rfl) (of_decide_eq_true (by kernel_rfl)) k2 bel lt2) (trodAll_cons_mk (Below.trod laidOut (by kernel_rfl) (of_decide_eq_true (by kernel_rfl)) k3 bel lt3) trodAll_mk0)))), rfl, bel.frame _, fun h => by cases h⟩

/-- A world for the witness: the settled one, the listed variables holding what their initialisers lay. -/
noncomputable def laidWorld (os : Os) : World :=
  { World.holding Tryd.prog os ⟨#[], #[], []⟩ with heap := (((World.holding Tryd.prog os ⟨#[], #[], []⟩).heap.modify 0 fun
      | .cells _ t frozen => .cells #[.int .u8 0, .int .u8 1, .int .u8 28, .int .u8 2, .int .u8 29, .int .u8 14, .int .u8 24, .int .u8 3, .int .u8 30, .int .u8 22, .int .u8 20, .int .u8 15, .int .u8 25, .int .u8 17, .int .u8 4, .int .u8 8, .int .u8 31, .int .u8 27, .int .u8 13, .int .u8 23, .int .u8 21, .int .u8 19, .int .u8 16, .int .u8 7, .int .u8 26, .int .u8 12, .int .u8 18, .int .u8 6, .int .u8 11, .int .u8 5, .int .u8 10, .int .u8 9] t frozen
      | o => o).modify 1 fun
      | .cells _ t frozen => .cells #[.int .u8 0, .int .u8 1, .int .u8 56, .int .u8 2, .int .u8 57, .int .u8 49, .int .u8 28, .int .u8 3, .int .u8 61, .int .u8 58, .int .u8 42, .int .u8 50, .int .u8 38, .int .u8 29, .int .u8 17, .int .u8 4, .int .u8 62, .int .u8 47, .int .u8 59, .int .u8 36, .int .u8 45, .int .u8 43, .int .u8 51, .int .u8 22, .int .u8 53, .int .u8 39, .int .u8 33, .int .u8 30, .int .u8 24, .int .u8 18, .int .u8 12, .int .u8 5, .int .u8 63, .int .u8 55, .int .u8 48, .int .u8 27, .int .u8 60, .int .u8 41, .int .u8 37, .int .u8 16, .int .u8 46, .int .u8 35, .int .u8 44, .int .u8 21, .int .u8 52, .int .u8 32, .int .u8 23, .int .u8 11, .int .u8 54, .int .u8 26, .int .u8 40, .int .u8 15, .int .u8 34, .int .u8 20, .int .u8 31, .int .u8 10, .int .u8 25, .int .u8 14, .int .u8 19, .int .u8 9, .int .u8 13, .int .u8 8, .int .u8 7, .int .u8 6] t frozen
      | o => o) }
theorem laid_met (os : Os) : laidMet Tryd.prog Rows.fnExactLongerWithoutRow.laid ((laidWorld os).forCall (fun _ _ => 0) ⟨#[], #[.slice none 0 0, .int .i64 0, .slice none 0 0, .slice none 0 0], []⟩).memory :=
  laidMet_of_run' 8 (by kernel_rfl) (by kernel_rfl)
theorem reads (os : Os) {H : Type} (enc : TypeId × Value → H) : ∃ places, DataW.whole enc Tryd.prog ((laidWorld os).forCall (fun _ _ => 0) ⟨#[], #[.slice none 0 0, .int .i64 0, .slice none 0 0, .slice none 0 0], []⟩).memory Tryd.f4.params.toList Rows.fnExactLongerWithoutSpec.vars false #[(.slice none 0 0 : Value), .int .i64 0, .slice none 0 0, .slice none 0 0].toList 8 = some ([.nil, .lit (.int .i64 0), .nil, .nil], [], places) :=
  ⟨[], by kernel_rfl⟩

set_option maxRecDepth 100000 in
theorem lifted (os : Os) (started : os.Started) (H : Type) (enc : TypeId × Value → H) (F : Stop.Interp) :
    ReturnsInHanded {} Tryd.checked os 4 .any ((OpenSpec.ofChange Rows.fnExactLongerWithoutSpec).preRow enc Tryd.prog Tryd.f4 Rows.fnExactLongerWithoutRow.domain false Rows.fnExactLongerWithoutRow.laid) (((OpenSpec.ofChange Rows.fnExactLongerWithoutSpec).at F).post enc Tryd.prog Tryd.f4 false true false false) := by
  obtain ⟨places, hx⟩ := reads os enc
  refine returnsInHanded_of_row (C := Tryd.checked) (s := (OpenSpec.ofChange Rows.fnExactLongerWithoutSpec)) own started (by kernel_rfl) Tryd.func4
    (witness_row_at (enc := enc) (C := Tryd.checked) false (laidWorld os) #[.slice none 0 0, .int .i64 0, .slice none 0 0, .slice none 0 0] rfl (by kernel_rfl) (by kernel_rfl) (by kernel_rfl)
      (OpenSpec.preRow_of_cond 8 hx (by kernel_rfl) (fun k hk => by cases hk) (by kernel_rfl) (laid_met os))) ?_
  intro W base args ds gs before hval hW _ _ _ hL hsh _
  exact contract H enc W base args ds gs before hval hW hsh hL

theorem said : Rows.FnExactLongerWithoutSaid :=
  OpenClaim.holds_of_cond 4 Tryd.f4 rfl rfl rfl rfl rfl rfl rfl ⟨rfl, rfl, rfl, rfl, rfl⟩ rfl rfl rfl rfl rfl (by kernel_rfl) Tryd.func4 (by kernel_rfl)
    (of_decide_eq_true (by kernel_rfl)) (by unfold Func.isWrapper; first | (rw [if_pos (by decide +kernel)]; kernel_rfl) | (rw [if_neg (by decide +kernel)]; exact ⟨rfl, rfl⟩))
    (fun os started H enc _ F => by rw [OpenClaim.pre_eq_preRow]; exact lifted os started H enc F)

/-- No parameter wants a stand-in; the program's own looks are off: what the card asks. -/
theorem plain (f : FuncId) (fn : Func) (hf : Tryd.pinned.checked.prog.funcNamed "loop.example/g01103/laws.FnExactLongerWithout" = some f) (hfn : Tryd.pinned.checked.prog.funcs[f]? = some fn) :
    false = Tryd.pinned.checked.prog.looks [] ∧ ∀ (j : Nat) t, fn.params[j]? = some t → Tryd.pinned.checked.prog.wantsStandIn t = false := by
  obtain rfl : f = 4 := Option.some.inj ((show Tryd.prog.funcNamed "loop.example/g01103/laws.FnExactLongerWithout" = some 4 by kernel_rfl).symm.trans hf) |>.symm
  obtain rfl : fn = Tryd.f4 := (Option.some.inj (Tryd.func4.symm.trans hfn)).symm
  refine ⟨by kernel_rfl, fun j t ht => ?_⟩
  rw [Tryd.params4] at ht
  have hm := Array.mem_of_getElem? ht
  simp only [List.mem_toArray, List.mem_cons, List.not_mem_nil, or_false] at hm
  rcases hm with rfl | rfl | rfl | rfl
  · exact (show Tryd.prog.wantsStandIn 22 = false by kernel_rfl)
  · exact (show Tryd.prog.wantsStandIn 3 = false by kernel_rfl)
  · exact (show Tryd.prog.wantsStandIn 35 = false by kernel_rfl)
  · exact (show Tryd.prog.wantsStandIn 23 = false by kernel_rfl)

theorem proved : Rows.FnExactLongerWithoutCardSaid :=
  Claim7.holds_tied_plain_at .later [] _ _ _ _ said (fun _ h => by cases h) (by kernel_rfl) (fun _ h => by cases h) fnExactLongerWithout_row_tie rfl ⟨rfl, rfl⟩ (by kernel_rfl) rfl plain (by kernel_rfl)
end Go.Proofs.YtjemjdlaoebffaaDoor.fnExactLongerWithout
