/- PointOf of the program and of the model agree at all jobs, lists and numbers of objectives, the arguments are left as they were, and the law's function returns true. No condition. -/
import Derived.Test.YtjemjdlaoebffaaRows
import Derived.Test.YtjemjdlaoebffaaBase
import Derived.Test.YtjemjdlaoebffaaFacts
import Derived.Test.YtjemjdlaoebffaaCtO
import Derived.Test.YtjemjdlaoebffaaPairs
import Derived.Test.YtjemjdlaoebffaaArgJ
import Derived.Test.YtjemjdlaoebffaaSegH
import Derived.WalkKit
import Derived.ProofKit
import Derived.HandedShaped
import Derived.OpenShut
import Derived.ShutString
namespace Go.Proofs.Ytjemjdlaoebffaa.fnExactPointOf
open Go.ChangeShapes Go.WideShapes Go.ChangeAt Go.RowKit Go.WideMaps Go.WideElems
open Go.ChangeMaps (open_string shut_string)
set_option linter.unusedVariables false

theorem own : ownKnob Try.prog.godebug = none := by kernel_rfl
theorem laidOut : laidOutB Try.prog = true := fact_laid
theorem closed : joinedFacts Try.prog 6 Try.f6 Rows.fnExactPointOfSpec Rows.fnExactPointOfRow = true := by
  unfold joinedFacts
  exact (and_t (and_t (and_t (and_t (and_t (and_t (and_t (and_t (and_t (and_t (and_t (and_t (and_t (and_t (and_t (and_t (and_t (and_t (and_t (and_t (and_t (and_t (and_t (and_t (and_t (and_t (and_t (and_t (and_t (and_t (and_t (by kernel_rfl) fact_laid) fact_maps) (by kernel_rfl)) (by kernel_rfl)) (by kernel_rfl)) (by kernel_rfl)) (by kernel_rfl)) (by kernel_rfl)) (by kernel_rfl)) (by kernel_rfl)) (by kernel_rfl)) (by kernel_rfl)) (by kernel_rfl)) (by kernel_rfl)) (by kernel_rfl)) (by kernel_rfl)) (by kernel_rfl)) (by kernel_rfl)) (by kernel_rfl)) (by kernel_rfl)) (by kernel_rfl)) (by kernel_rfl)) (by kernel_rfl)) fact_heard) fact_enter) fact_lifts) fact_make) (by kernel_rfl)) (by kernel_rfl)) (by kernel_rfl)) (by kernel_rfl))



set_option maxRecDepth 100000 in
set_option maxHeartbeats 4000000 in
/-- THE WALK: the law's function returns true and leaves what was there as it was. -/
theorem walk (a0 : Option Addr) (l0 c0 : Nat) (z0 : List J) (a1 : Option Addr) (l1 c1 : Nat) (z1 : List Int) (a2 : Int) (w2 : (Lit.int .i64 a2).wf = true) (a3 : Int) (w3 : (Lit.int .i64 a3).wf = true) (w : World) (w0 : IsJobsA w a0 l0 c0 z0) (w1 : IsInts .i64 w a1 l1 c1 z1)  :
    Calls Try.prog 6 #[.slice a0 l0 c0, .slice a1 l1 c1, .int .i64 a2, .int .i64 a3] w fun e w' => e = .returned (.bool true) ∧ Below w.heap.size w w' := by
  obtain ⟨rfl, hlc0, hcm0, hr0, _⟩ := w0
  have hm0 : z0.length ≤ maxLen := by omega
  have HR0 := Lib.hid hr0
  clear hr0
  obtain ⟨o1, rfl, hr1, hm1, _⟩ := w1.row
  have HR1 := Lib.hid hr1
  clear hr1
  by_cases hsz1 : 1048576 < o1.length
  · go_enter Try.func6, Try.ntmps6
    go_wp2
    go_ret
    exact ⟨rfl, Below.refl _ _⟩
  · have hsz1' : o1.length ≤ 1048576 := by omega
    go_enter Try.func6, Try.ntmps6
    go_wp2_with fail
    refine (szJobS_any a0 z0.length c0 _ hm0).mono ?_
    rintro e _ ⟨⟨rfl, hn0⟩ | ⟨rfl, hn0⟩, rfl⟩
    · skip
      go_wp2_with fail
      refine (toJobS_seg _ _ z0 _ HR0.out (by omega)).mono ?_
      rintro e v1 ⟨g1, rfl, hs1, hb1⟩
      have HB1 := Lib.hid (hb1)
      have hz1 := hb1.size
      clear hb1
      have S_t0 := Lib.hid hs1
      clear hs1
      go_wp2_with fail
      refine (toIntS_seg _ _ o1 _ (HR1.out.below HB1.out) (by omega)).mono ?_
      rintro e v2 ⟨g2, rfl, hs2, hb2⟩
      have HB2 := Lib.hid (HB1.out.trans (hb2.mono HB1.out.size))
      have hz2 := hb2.size
      have S_t0_2 := Lib.hid (S_t0.out.below hb2)
      clear HB1 S_t0 hb2
      have S_t1 := Lib.hid hs2
      clear hs2
      go_wp2_with fail
      refine (spec_PointOf _ _ _ _ z0 o1 a2 a3 _ S_t0_2.out.row S_t1.out.row (by omega) (by omega)).mono ?_
      rintro e v3 ⟨rfl, hb3⟩
      clear S_t0_2
      clear S_t1
      have HB3 := Lib.hid (HB2.out.trans (hb3.mono HB2.out.size))
      have hz3 := hb3.size
      clear HB2 hb3
      have hbx4 := (Below.refl v3.heap.size v3).alloc (Nat.le_refl _) (.cells #[.int .i64 (ptR z0 o1 a2 a3).1.1, .int .i64 (ptR z0 o1 a2 a3).1.2] 47)
      have ABw0 := Lib.hid (BlockIs.new v3 47 #[.int .i64 (ptR z0 o1 a2 a3).1.1, .int .i64 (ptR z0 o1 a2 a3).1.2])
      have HB4 := Lib.hid (HB3.out.trans (hbx4.mono HB3.out.size))
      have hz4 := hbx4.size
      clear HB3 hbx4
      have Aboxw0a := ABw0.out.cell 0
      have Aboxw0b := ABw0.out.cell 1
      simp only [List.getElem?_toArray, List.getElem?_cons_zero, List.getElem?_cons_succ] at Aboxw0a Aboxw0b
      go_wp2_with fail
      refine (toJobS_seg _ _ z0 _ (HR0.out.below HB4.out) (by omega)).mono ?_
      rintro e v5 ⟨g5, rfl, hs5, hb5⟩
      clear Aboxw0a Aboxw0b
      have HB5 := Lib.hid (HB4.out.trans (hb5.mono HB4.out.size))
      have hz5 := hb5.size
      have ABw0_5 := Lib.hid (ABw0.out.below hb5)
      clear HB4 ABw0 hb5
      have S_x0 := Lib.hid hs5
      clear hs5
      have Aboxw0a := ABw0_5.out.cell 0
      have Aboxw0b := ABw0_5.out.cell 1
      simp only [List.getElem?_toArray, List.getElem?_cons_zero, List.getElem?_cons_succ] at Aboxw0a Aboxw0b
      go_wp2_with fail
      refine (toIntS_seg _ _ o1 _ (HR1.out.below HB5.out) (by omega)).mono ?_
      rintro e v6 ⟨g6, rfl, hs6, hb6⟩
      clear Aboxw0a Aboxw0b
      have HB6 := Lib.hid (HB5.out.trans (hb6.mono HB5.out.size))
      have hz6 := hb6.size
      have ABw0_6 := Lib.hid (ABw0_5.out.below hb6)
      have S_x0_6 := Lib.hid (S_x0.out.below hb6)
      clear HB5 ABw0_5 S_x0 hb6
      have S_x1 := Lib.hid hs6
      clear hs6
      have Aboxw0a := ABw0_6.out.cell 0
      have Aboxw0b := ABw0_6.out.cell 1
      simp only [List.getElem?_toArray, List.getElem?_cons_zero, List.getElem?_cons_succ] at Aboxw0a Aboxw0b
      go_wp2_with fail
      refine (impl_PointOf _ _ _ _ z0 o1 a2 a3 _ S_x0_6.out.row S_x1.out.row (by omega) (by omega)).mono ?_
      rintro e v7 ⟨rfl, hb7⟩
      clear Aboxw0a Aboxw0b
      have HB7 := Lib.hid (HB6.out.trans (hb7.mono HB6.out.size))
      have hz7 := hb7.size
      have ABw0_7 := Lib.hid (ABw0_6.out.below hb7)
      have S_x0_7 := Lib.hid (S_x0_6.out.below hb7)
      have S_x1_7 := Lib.hid (S_x1.out.below hb7)
      clear HB6 ABw0_6 S_x0_6 S_x1 hb7
      have hbx8 := (Below.refl v7.heap.size v7).alloc (Nat.le_refl _) (.cells #[.int .i64 (ptR z0 o1 a2 a3).1.1, .int .i64 (ptR z0 o1 a2 a3).1.2] 47)
      have ABg0 := Lib.hid (BlockIs.new v7 47 #[.int .i64 (ptR z0 o1 a2 a3).1.1, .int .i64 (ptR z0 o1 a2 a3).1.2])
      have HB8 := Lib.hid (HB7.out.trans (hbx8.mono HB7.out.size))
      have hz8 := hbx8.size
      have ABw0_8 := Lib.hid (ABw0_7.out.below hbx8)
      have S_x0_8 := Lib.hid (S_x0_7.out.below hbx8)
      have S_x1_8 := Lib.hid (S_x1_7.out.below hbx8)
      clear HB7 ABw0_7 S_x0_7 S_x1_7 hbx8
      have Aboxw0a := ABw0_8.out.cell 0
      have Aboxw0b := ABw0_8.out.cell 1
      have Aboxg0a := ABg0.out.cell 0
      have Aboxg0b := ABg0.out.cell 1
      simp only [List.getElem?_toArray, List.getElem?_cons_zero, List.getElem?_cons_succ] at Aboxw0a Aboxw0b Aboxg0a Aboxg0b
      go_wp2_with fail
      refine (eqIntA2_same (ptR z0 o1 a2 a3).1 _).mono ?_
      rintro e v9 ⟨rfl, hb9⟩
      clear Aboxw0a Aboxw0b Aboxg0a Aboxg0b
      clear ABg0
      clear ABw0_8
      have HB9 := Lib.hid (HB8.out.trans (hb9.mono HB8.out.size))
      have hz9 := hb9.size
      have S_x0_9 := Lib.hid (S_x0_8.out.below hb9)
      have S_x1_9 := Lib.hid (S_x1_8.out.below hb9)
      clear HB8 S_x0_8 S_x1_8 hb9
      go_wp2_with fail
      refine (toJobS_seg _ _ z0 _ (HR0.out.below HB9.out) (by omega)).mono ?_
      rintro e v10 ⟨g10, rfl, hs10, hb10⟩
      have HB10 := Lib.hid (HB9.out.trans (hb10.mono HB9.out.size))
      have hz10 := hb10.size
      have S_x0_10 := Lib.hid (S_x0_9.out.below hb10)
      have S_x1_10 := Lib.hid (S_x1_9.out.below hb10)
      clear HB9 S_x0_9 S_x1_9 hb10
      have S_t9 := Lib.hid hs10
      clear hs10
      go_wp2_with fail
      refine (eqJobS_same _ _ _ _ z0 _ S_x0_10.out.row S_t9.out.row (by omega)).mono ?_
      rintro e v11 ⟨rfl, hb11⟩
      have HB11 := Lib.hid (HB10.out.trans (hb11.mono HB10.out.size))
      have hz11 := hb11.size
      have S_x0_11 := Lib.hid (S_x0_10.out.below hb11)
      have S_x1_11 := Lib.hid (S_x1_10.out.below hb11)
      have S_t9_11 := Lib.hid (S_t9.out.below hb11)
      clear HB10 S_x0_10 S_x1_10 S_t9 hb11
      clear S_t9_11
      go_wp2_with fail
      refine (toIntS_seg _ _ o1 _ (HR1.out.below HB11.out) (by omega)).mono ?_
      rintro e v12 ⟨g12, rfl, hs12, hb12⟩
      clear S_x0_11
      have HB12 := Lib.hid (HB11.out.trans (hb12.mono HB11.out.size))
      have hz12 := hb12.size
      have S_x1_12 := Lib.hid (S_x1_11.out.below hb12)
      clear HB11 S_x1_11 hb12
      have S_t11 := Lib.hid hs12
      clear hs12
      go_wp2_with fail
      refine (eqIntS_seg _ _ _ _ o1 _ S_x1_12.out.row S_t11.out.row (by omega)).mono ?_
      rintro e v13 ⟨rfl, hb13⟩
      have HB13 := Lib.hid (HB12.out.trans (hb13.mono HB12.out.size))
      have hz13 := hb13.size
      have S_x1_13 := Lib.hid (S_x1_12.out.below hb13)
      have S_t11_13 := Lib.hid (S_t11.out.below hb13)
      clear HB12 S_x1_12 S_t11 hb13
      clear S_t11_13
      go_wp2
      go_ret
      exact ⟨rfl, HB13.out⟩
    · go_wp2
      go_ret
      exact ⟨rfl, Below.refl _ _⟩

set_option maxRecDepth 100000 in
/-- What the walk gives, for every argument that can be read and every world. -/
theorem contract (H : Type) (enc : TypeId × Value → H) (W : World) (base : Nat) (args : Array Value) (ds gs : List (DataW H)) (before : List MemPlace)
    (hval : ∀ (j : Nat) t v, Try.f6.params[j]? = some t → args[j]? = some v → Value.okWide Try.prog W .any base t v)
    (hW : DataW.Whole enc Try.prog Try.f6.params.toList Rows.fnExactPointOfSpec.vars false W args.toList ds gs before) (hsh : W.ShapedOpen Try.prog) :
    Calls Try.prog 6 args W fun e W' => ∃ v, e = .returned v ∧ Rows.fnExactPointOfSpec.post enc Try.prog Try.f6 false true false false W args v W' := by
  have hW' := hW
  obtain ⟨p, q, hA0, hV, rfl, hfz, hnd⟩ := hW
  have hA : DataW.TrodAll enc Try.prog W 0 (fun _ => true) true Try.f6.params.toList args.toList ds p := hA0
  rw [Try.params6] at hA hval
  obtain ⟨v0, vs0, d0, ds0, p0, q0, hargs, rfl, rfl, h0, r0⟩ := trodAll_cons hA
  obtain ⟨v1, vs1, d1, ds1, p1, q1, rfl, rfl, rfl, h1, r1⟩ := trodAll_cons r0
  obtain ⟨v2, vs2, d2, ds2, p2, q2, rfl, rfl, rfl, h2, r2⟩ := trodAll_cons r1
  obtain ⟨v3, vs3, d3, ds3, p3, q3, rfl, rfl, rfl, h3, r3⟩ := trodAll_cons r2
  obtain ⟨rfl, rfl, rfl⟩ := trodAll_nil r3
  obtain rfl : args = #[v0, v1, v2, v3] := by cases args; simp_all
  obtain ⟨rfl, rfl⟩ := trodVars_none hV
  have k0 := h0
  have lt0 : ∀ x ∈ p0, x.block < W.heap.size := by obtain ⟨m, hm⟩ := k0; exact DataW.trod_lt m _ _ _ hm
  have k1 := h1
  have lt1 : ∀ x ∈ p1, x.block < W.heap.size := by obtain ⟨m, hm⟩ := k1; exact DataW.trod_lt m _ _ _ hm
  have k2 := h2
  have lt2 : ∀ x ∈ p2, x.block < W.heap.size := by obtain ⟨m, hm⟩ := k2; exact DataW.trod_lt m _ _ _ hm
  have k3 := h3
  have lt3 : ∀ x ∈ p3, x.block < W.heap.size := by obtain ⟨m, hm⟩ := k3; exact DataW.trod_lt m _ _ _ hm
  obtain ⟨a0, l0, c0, rfl⟩ := okWide_slice Try.underlying45 (hval 0 45 v0 rfl rfl)
  obtain ⟨z0, w0⟩ : ∃ zs, IsJobsA W a0 l0 c0 zs := by
    obtain ⟨fuel, hf⟩ := h0
    obtain ⟨A', l', c', js, hcs, hj⟩ := open_jobs Try.underlying45 Try.underlying97 (by kernel_rfl) (by kernel_rfl) Try.underlying3 Try.underlying3 Try.underlying3 Try.underlying3 hf
    simp [Value.cells] at hcs
    obtain ⟨rfl, rfl, rfl⟩ := hcs
    exact ⟨js, hj⟩
  obtain ⟨a1, l1, c1, rfl⟩ := okWide_slice Try.underlying39 (hval 1 39 v1 rfl rfl)
  obtain ⟨z1, w1⟩ : ∃ zs, IsInts .i64 W a1 l1 c1 zs := by
    obtain ⟨fuel, hf⟩ := h1
    rcases open_ints Try.underlying39 Try.underlying3 (by kernel_rfl) hf with ⟨hcs, _⟩ | ⟨x, l, c, zs, hcs, _, hl, hm, hz, _, hcell, hwz⟩
    · simp [Value.cells] at hcs
      obtain ⟨rfl, rfl, rfl⟩ := hcs
      exact ⟨[], .inl ⟨rfl, rfl, rfl, rfl⟩⟩
    · simp [Value.cells] at hcs
      obtain ⟨rfl, rfl, rfl⟩ := hcs
      exact ⟨zs, .inr ⟨_, rfl, hl, hm, by simpa using hz, hcell, hwz⟩⟩
  obtain ⟨a2, rfl, rfl, rfl, w2⟩ := open_int Try.underlying3 (hval 2 3 v2 rfl rfl) h2
  obtain ⟨a3, rfl, rfl, rfl, w3⟩ := open_int Try.underlying3 (hval 3 3 v3 rfl rfl) h3

  clear hA0
  refine (walk a0 l0 c0 z0 a1 l1 c1 z1 a2 w2 a3 w3 W w0 w1 ).mono fun e W' ⟨he, bel⟩ => ?_
  subst he
  exact ⟨_, rfl, _, _, _, [], _, [], hW', trodAll_mk1 (shut_bool Try.underlying4 _), (trodAll_cons_mk (Below.trod laidOut (by kernel_rfl) (of_decide_eq_true (by kernel_rfl)) k0 bel lt0) (trodAll_cons_mk (Below.trod laidOut (by kernel_rfl) (of_decide_eq_true (by kernel_rfl)) k1 bel lt1) (trodAll_cons_mk (Below.trod laidOut (by kernel_rfl) (of_decide_eq_true (by kernel_rfl)) k2 bel lt2) (trodAll_cons_mk (Below.trod laidOut (by kernel_rfl) (of_decide_eq_true (by kernel_rfl)) k3 bel lt3) trodAll_mk0)))), rfl, bel.frame _, fun h => by cases h⟩

set_option maxRecDepth 100000 in
theorem lifted (os : Os) (started : os.Started) (H : Type) (enc : TypeId × Value → H) :
    ReturnsInHanded {} Try.checked os 6 .any (Rows.fnExactPointOfSpec.pre6 enc Try.prog Try.f6 Rows.fnExactPointOfRow.domain false) (Rows.fnExactPointOfSpec.post enc Try.prog Try.f6 false true false false) := by
  refine returnsInHanded_of_change_shaped (C := Try.checked) own started (by kernel_rfl) Try.func6
    (ChangeSpec.witness6 (enc := enc) (C := Try.checked) false ⟨#[], #[.slice none 0 0, .slice none 0 0, .int .i64 0, .int .i64 0], []⟩ 8 (by kernel_rfl) (by kernel_rfl) (by kernel_rfl) (by kernel_rfl)) ?_
  intro W base args ds gs before hval hW _ _ hsh _
  exact contract H enc W base args ds gs before hval hW hsh

theorem proved : Rows.FnExactPointOfSaid :=
  OpenClaim.holds_of_wide 6 Try.f6 rfl rfl rfl rfl rfl rfl rfl ⟨rfl, rfl, rfl, rfl, rfl⟩ rfl rfl rfl rfl rfl (by kernel_rfl) Try.func6 closed
    (of_decide_eq_true (by kernel_rfl)) (by unfold Func.isWrapper; first | (rw [if_pos (by decide +kernel)]; kernel_rfl) | (rw [if_neg (by decide +kernel)]; exact ⟨rfl, rfl⟩))
    (fun os started H enc _ => lifted os started H enc)
end Go.Proofs.Ytjemjdlaoebffaa.fnExactPointOf
