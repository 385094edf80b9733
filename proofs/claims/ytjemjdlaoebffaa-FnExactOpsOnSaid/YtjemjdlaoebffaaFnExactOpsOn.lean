/- OpsOn of the program and of the model agree at all job shops and numbers, the argument is left as it was, what is returned is memory of its own at each call, and the law's function returns true. No condition. -/
import Derived.Test.YtjemjdlaoebffaaRows
import Derived.Test.YtjemjdlaoebffaaBase
import Derived.Test.YtjemjdlaoebffaaFacts
import Derived.Test.YtjemjdlaoebffaaArgV
import Derived.Test.YtjemjdlaoebffaaJwT
import Derived.WalkKit
import Derived.ProofKit
import Derived.HandedShaped
import Derived.OpenShut
import Derived.ShutString
namespace Go.Proofs.Ytjemjdlaoebffaa.fnExactOpsOn
open Go.ChangeShapes Go.WideShapes Go.ChangeAt Go.RowKit Go.WideMaps Go.WideElems
open Go.ChangeMaps (open_string shut_string)
set_option linter.unusedVariables false

theorem own : ownKnob Try.prog.godebug = none := by kernel_rfl
theorem laidOut : laidOutB Try.prog = true := fact_laid
theorem closed : joinedFacts Try.prog 5 Try.f5 Rows.fnExactOpsOnSpec Rows.fnExactOpsOnRow = true := by
  unfold joinedFacts
  exact (and_t (and_t (and_t (and_t (and_t (and_t (and_t (and_t (and_t (and_t (and_t (and_t (and_t (and_t (and_t (and_t (and_t (and_t (and_t (and_t (and_t (and_t (and_t (and_t (and_t (and_t (and_t (and_t (and_t (and_t (and_t (by kernel_rfl) fact_laid) fact_maps) (by kernel_rfl)) (by kernel_rfl)) (by kernel_rfl)) (by kernel_rfl)) (by kernel_rfl)) (by kernel_rfl)) (by kernel_rfl)) (by kernel_rfl)) (by kernel_rfl)) (by kernel_rfl)) (by kernel_rfl)) (by kernel_rfl)) (by kernel_rfl)) (by kernel_rfl)) (by kernel_rfl)) (by kernel_rfl)) (by kernel_rfl)) (by kernel_rfl)) (by kernel_rfl)) (by kernel_rfl)) (by kernel_rfl)) fact_heard) fact_enter) fact_lifts) fact_make) (by kernel_rfl)) (by kernel_rfl)) (by kernel_rfl)) (by kernel_rfl))



set_option maxRecDepth 100000 in
set_option maxHeartbeats 4000000 in
/-- THE WALK: the law's function returns true and leaves what was there as it was. -/
theorem walk (m0 : Int) (a0 : Option Addr) (l0 c0 : Nat) (z0 : List (List Pr)) (a1 : Int) (w1 : (Lit.int .i64 a1).wf = true) (w : World) (w0 : IsShopA w m0 a0 l0 c0 z0)  :
    Calls Try.prog 5 #[.agg #[.int .i64 m0, .slice a0 l0 c0], .int .i64 a1] w fun e w' => e = .returned (.bool true) ∧ Below w.heap.size w w' := by
  obtain ⟨wm0, rfl, hlc0, hcm0, hr0, hw0⟩ := w0
  have hm0 : z0.length ≤ maxLen := by omega
  have HR0 := Lib.hid hr0
  have HW0 := Lib.hid (fun xs hx => (hw0 xs hx).1)
  clear hr0 hw0
  have hbw := (Below.refl w.heap.size w).alloc (Nat.le_refl _) (.cells #[.int .i64 m0, .slice a0 z0.length c0] 24)
  have BX := Lib.hid (BlockIs.new w 24 #[.int .i64 m0, .slice a0 z0.length c0])
  have HBS := Lib.hid (Below.refl (w.alloc (.cells #[.int .i64 m0, .slice a0 z0.length c0] 24)).heap.size (w.alloc (.cells #[.int .i64 m0, .slice a0 z0.length c0] 24)))
  have HR0 := Lib.hid (HR0.out.below hbw)
  have HBW := Lib.hid hbw
  clear hbw
  have hL0 := onR_len m0 z0 a1
  go_enter Try.func5, Try.ntmps5
  have bxa := (BX.out.below HBS.out).cell 0
  have bxb := (BX.out.below HBS.out).cell 1
  simp only [List.getElem?_toArray, List.getElem?_cons_zero, List.getElem?_cons_succ] at bxa bxb
  go_wp2_with fail
  refine (szJobShop_any m0 a0 _ c0 z0 1048576 _ rfl HR0.out hm0 HW0.out (by omega) (by omega)).mono ?_
  rintro e v0 ⟨⟨q0, rfl, hq0, hn0⟩ | rfl, hb0⟩
  · skip
    clear bxa bxb
    have HB0 := Lib.hid hb0
    have hz0 := hb0.size
    clear hb0 HBS
    have bxa := (BX.out.below HB0.out).cell 0
    have bxb := (BX.out.below HB0.out).cell 1
    simp only [List.getElem?_toArray, List.getElem?_cons_zero, List.getElem?_cons_succ] at bxa bxb
    go_wp2_with fail
    refine (toJobShop_seg m0 _ _ _ z0 _ rfl (HR0.out.below HB0.out) (by omega) (by omega)).mono ?_
    rintro e v1 ⟨g1, rfl, hs1, hb1⟩
    clear bxa bxb
    have HB1 := Lib.hid (HB0.out.trans (hb1.mono HB0.out.size))
    have hz1 := hb1.size
    clear HB0 hb1
    have S_t0 := Lib.hid hs1
    clear hs1
    have bxa := (BX.out.below HB1.out).cell 0
    have bxb := (BX.out.below HB1.out).cell 1
    simp only [List.getElem?_toArray, List.getElem?_cons_zero, List.getElem?_cons_succ] at bxa bxb
    go_wp2_with fail
    refine (spec_OpsOn _ _ m0 z0 a1 _ S_t0.out.row ⟨by omega, by omega⟩).mono ?_
    rintro e v2 ⟨A2_0, c2_0, rfl, hs2_0, hb2⟩
    clear bxa bxb
    clear S_t0
    have HB2 := Lib.hid (HB1.out.trans (hb2.mono HB1.out.size))
    have hz2 := hb2.size
    clear HB1 hb2
    have S_w0 := Lib.hid hs2_0
    clear hs2_0
    have bxa := (BX.out.below HB2.out).cell 0
    have bxb := (BX.out.below HB2.out).cell 1
    simp only [List.getElem?_toArray, List.getElem?_cons_zero, List.getElem?_cons_succ] at bxa bxb
    go_wp2_with fail
    refine (toJobShop_seg m0 _ _ _ z0 _ rfl (HR0.out.below HB2.out) (by omega) (by omega)).mono ?_
    rintro e v3 ⟨g3, rfl, hs3, hb3⟩
    clear bxa bxb
    have HB3 := Lib.hid (HB2.out.trans (hb3.mono HB2.out.size))
    have hz3 := hb3.size
    have S_w0_3 := Lib.hid (S_w0.out.below hb3)
    clear HB2 S_w0 hb3
    have S_x0 := Lib.hid hs3
    clear hs3
    have hbx4 := (Below.refl v3.heap.size v3).alloc (Nat.le_refl _) (.cells #[.int .i64 m0, .slice (some ⟨g3, 0, none⟩) z0.length z0.length] 29)
    have XB := Lib.hid (BlockIs.new v3 29 #[.int .i64 m0, .slice (some ⟨g3, 0, none⟩) z0.length z0.length])
    have hzs4 : v3.heap.size < (v3.alloc (.cells #[.int .i64 m0, .slice (some ⟨g3, 0, none⟩) z0.length z0.length] 29)).heap.size := by simp
    have HB4 := Lib.hid (HB3.out.trans (hbx4.mono HB3.out.size))
    have hz4 := hbx4.size
    have S_w0_4 := Lib.hid (S_w0_3.out.below hbx4)
    have S_x0_4 := Lib.hid (S_x0.out.below hbx4)
    clear HB3 S_w0_3 S_x0 hbx4
    have bxa := (BX.out.below HB4.out).cell 0
    have bxb := (BX.out.below HB4.out).cell 1
    have xba := XB.out.cell 0
    have xbb := XB.out.cell 1
    simp only [List.getElem?_toArray, List.getElem?_cons_zero, List.getElem?_cons_succ] at bxa bxb xba xbb
    go_wp2_with fail
    refine (impl_OpsOn _ _ m0 z0 a1 _ S_x0_4.out.row ⟨by omega, by omega⟩).mono ?_
    rintro e v5 ⟨A5_0, c5_0, rfl, hs5_0, hb5⟩
    clear bxa bxb xba xbb
    have HB5 := Lib.hid (HB4.out.trans (hb5.mono HB4.out.size))
    have hz5 := hb5.size
    have S_w0_5 := Lib.hid (S_w0_4.out.below hb5)
    have S_x0_5 := Lib.hid (S_x0_4.out.below hb5)
    have XB_5 := Lib.hid (XB.out.below hb5)
    clear HB4 S_w0_4 S_x0_4 XB hb5
    have S_g0 := Lib.hid hs5_0
    clear hs5_0
    have bxa := (BX.out.below HB5.out).cell 0
    have bxb := (BX.out.below HB5.out).cell 1
    have xba := XB_5.out.cell 0
    have xbb := XB_5.out.cell 1
    simp only [List.getElem?_toArray, List.getElem?_cons_zero, List.getElem?_cons_succ] at bxa bxb xba xbb
    go_wp2_with fail
    refine (eqIntS_seg _ _ _ _ (onR m0 z0 a1).1 _ S_g0.out.row S_w0_5.out.row (by omega)).mono ?_
    rintro e v6 ⟨rfl, hb6⟩
    clear bxa bxb xba xbb
    have HB6 := Lib.hid (HB5.out.trans (hb6.mono HB5.out.size))
    have hz6 := hb6.size
    have S_w0_6 := Lib.hid (S_w0_5.out.below hb6)
    have S_x0_6 := Lib.hid (S_x0_5.out.below hb6)
    have XB_6 := Lib.hid (XB_5.out.below hb6)
    have S_g0_6 := Lib.hid (S_g0.out.below hb6)
    clear HB5 S_w0_5 S_x0_5 XB_5 S_g0 hb6
    have HT := Lib.hid (fun W (hW : Below v6.heap.size v6 W) => toJobShop_seg m0 a0 z0.length c0 z0 W rfl (HR0.out.below (HB6.out.trans (hW.mono HB6.out.size))) (by omega) (by omega))
    have HE := Lib.hid (fun W (hW : Below v6.heap.size v6 W) A1 c1 (hq : RowX pc W A1 z0) => eqJobShop_seg m0 _ A1 z0.length c1 z0.length z0 W rfl (S_x0_6.out.below hW).row hq ⟨by omega, by omega⟩)
    have bxa := (BX.out.below HB6.out).cell 0
    have bxb := (BX.out.below HB6.out).cell 1
    have xba := XB_6.out.cell 0
    have xbb := XB_6.out.cell 1
    simp only [List.getElem?_toArray, List.getElem?_cons_zero, List.getElem?_cons_succ] at bxa bxb xba xbb
    go_wp2
    go_region_with (first | (go_at_call 12; refine (HT.out _ (by first | exact Below.refl _ _ | exact (Below.refl _ _).drew | exact (Below.refl _ _).drewN _)).mono ?_; rintro e we ⟨ge, rfl, hse, hbe⟩; have xbc := (XB_6.out.below (⟨hbe.os, hbe.tape, hbe.output, hbe.size, hbe.block⟩ : Below v6.heap.size v6 we)).cell 0; have xbd := (XB_6.out.below (⟨hbe.os, hbe.tape, hbe.output, hbe.size, hbe.block⟩ : Below v6.heap.size v6 we)).cell 1; simp only [List.getElem?_toArray, List.getElem?_cons_zero, List.getElem?_cons_succ] at xbc xbd) | (go_at_call 14; refine (HE.out _ (⟨hbe.os, hbe.tape, hbe.output, hbe.size, hbe.block⟩ : Below v6.heap.size v6 we) _ _ hse.row).mono ?_; rintro e wf ⟨rfl, hbf⟩))
    all_goals
      have hb7 : Below v6.heap.size v6 wf := (⟨hbe.os, hbe.tape, hbe.output, hbe.size, hbe.block⟩ : Below v6.heap.size v6 we).trans (hbf.mono hbe.size)
      clear hse hbe hbf xbc xbd HT HE bxa bxb xba xbb
      have HB7 := Lib.hid (HB6.out.trans (hb7.mono HB6.out.size))
      have hz7 := hb7.size
      have S_w0_7 := Lib.hid (S_w0_6.out.below hb7)
      have S_x0_7 := Lib.hid (S_x0_6.out.below hb7)
      have XB_7 := Lib.hid (XB_6.out.below hb7)
      have S_g0_7 := Lib.hid (S_g0_6.out.below hb7)
      clear HB6 S_w0_6 S_x0_6 XB_6 S_g0_6 hb7
      have bxa := (BX.out.below HB7.out).cell 0
      have bxb := (BX.out.below HB7.out).cell 1
      have xba := XB_7.out.cell 0
      have xbb := XB_7.out.cell 1
      simp only [List.getElem?_toArray, List.getElem?_cons_zero, List.getElem?_cons_succ] at bxa bxb xba xbb
      go_wp2_with fail
      refine (markJobShop_seg m0 _ _ _ _ _ _ z0 _ S_x0_7.out (by omega) (by omega) ⟨by omega, by omega⟩).mono ?_
      rintro e v8 ⟨rfl, ht8⟩
      clear bxa bxb xba xbb
      have HB8 := Lib.hid (HB7.out.trans (ht8.below (by omega) (by omega)))
      have hz8 := ht8.size
      have S_w0_8 := Lib.hid (S_w0_7.out.keep ht8 (by omega))
      have XB_8 := Lib.hid (XB_7.out.keep ht8 (by omega))
      have S_g0_8 := Lib.hid (S_g0_7.out.keep ht8 (by omega))
      clear HB7 S_w0_7 XB_7 S_g0_7 ht8
      clear S_x0_7
      clear XB_8
      have bxa := (BX.out.below HB8.out).cell 0
      have bxb := (BX.out.below HB8.out).cell 1
      simp only [List.getElem?_toArray, List.getElem?_cons_zero, List.getElem?_cons_succ] at bxa bxb
      go_wp2_with fail
      refine (eqIntS_seg _ _ _ _ (onR m0 z0 a1).1 _ S_g0_8.out.row S_w0_8.out.row (by omega)).mono ?_
      rintro e v9 ⟨rfl, hb9⟩
      clear bxa bxb
      have HB9 := Lib.hid (HB8.out.trans (hb9.mono HB8.out.size))
      have hz9 := hb9.size
      have S_w0_9 := Lib.hid (S_w0_8.out.below hb9)
      have S_g0_9 := Lib.hid (S_g0_8.out.below hb9)
      clear HB8 S_w0_8 S_g0_8 hb9
      have bxa := (BX.out.below HB9.out).cell 0
      have bxb := (BX.out.below HB9.out).cell 1
      simp only [List.getElem?_toArray, List.getElem?_cons_zero, List.getElem?_cons_succ] at bxa bxb
      go_wp2_with fail
      refine (markIntS_seg _ _ _ _ _ _ _ _ S_g0_9.out (by omega) (by omega) (by omega)).mono ?_
      rintro e v10 ⟨rfl, hs10, ht10⟩
      clear bxa bxb
      have HB10 := Lib.hid (HB9.out.trans (ht10.below (by omega) (by omega)))
      have hz10 := ht10.size
      have S_w0_10 := Lib.hid (S_w0_9.out.keep ht10 (by omega))
      clear HB9 S_w0_9 ht10
      clear S_g0_9
      have S_g0_10 := Lib.hid hs10
      clear hs10
      go_wp2_with fail
      refine (heldIntS_seg _ _ _ _ _ S_g0_10.out.row (by omega) (by omega) (by omega)).mono ?_
      rintro e _ ⟨rfl, rfl⟩
      have bxa := (BX.out.below HB10.out).cell 0
      have bxb := (BX.out.below HB10.out).cell 1
      simp only [List.getElem?_toArray, List.getElem?_cons_zero, List.getElem?_cons_succ] at bxa bxb
      go_wp2_with fail
      refine (toJobShop_seg m0 _ _ _ z0 _ rfl (HR0.out.below HB10.out) (by omega) (by omega)).mono ?_
      rintro e v11 ⟨g11, rfl, hs11, hb11⟩
      clear bxa bxb
      have HB11 := Lib.hid (HB10.out.trans (hb11.mono HB10.out.size))
      have hz11 := hb11.size
      have S_w0_11 := Lib.hid (S_w0_10.out.below hb11)
      have S_g0_11 := Lib.hid (S_g0_10.out.below hb11)
      clear HB10 S_w0_10 S_g0_10 hb11
      have S_t10 := Lib.hid hs11
      clear hs11
      have bxa := (BX.out.below HB11.out).cell 0
      have bxb := (BX.out.below HB11.out).cell 1
      simp only [List.getElem?_toArray, List.getElem?_cons_zero, List.getElem?_cons_succ] at bxa bxb
      go_wp2_with fail
      refine (impl_OpsOn _ _ m0 z0 a1 _ S_t10.out.row ⟨by omega, by omega⟩).mono ?_
      rintro e v12 ⟨A12_0, c12_0, rfl, hs12_0, hb12⟩
      clear bxa bxb
      clear S_t10
      have HB12 := Lib.hid (HB11.out.trans (hb12.mono HB11.out.size))
      have hz12 := hb12.size
      have S_w0_12 := Lib.hid (S_w0_11.out.below hb12)
      have S_g0_12 := Lib.hid (S_g0_11.out.below hb12)
      clear HB11 S_w0_11 S_g0_11 hb12
      have S_h0 := Lib.hid hs12_0
      clear hs12_0
      have bxa := (BX.out.below HB12.out).cell 0
      have bxb := (BX.out.below HB12.out).cell 1
      simp only [List.getElem?_toArray, List.getElem?_cons_zero, List.getElem?_cons_succ] at bxa bxb
      go_wp2_with fail
      refine (eqIntS_seg _ _ _ _ (onR m0 z0 a1).1 _ S_h0.out.row S_w0_12.out.row (by omega)).mono ?_
      rintro e v13 ⟨rfl, hb13⟩
      clear bxa bxb
      have HB13 := Lib.hid (HB12.out.trans (hb13.mono HB12.out.size))
      have hz13 := hb13.size
      have S_w0_13 := Lib.hid (S_w0_12.out.below hb13)
      have S_g0_13 := Lib.hid (S_g0_12.out.below hb13)
      have S_h0_13 := Lib.hid (S_h0.out.below hb13)
      clear HB12 S_w0_12 S_g0_12 S_h0 hb13
      go_wp2_with fail
      refine (heldIntS_seg _ _ _ _ _ S_g0_13.out.row (by omega) (by omega) (by omega)).mono ?_
      rintro e _ ⟨rfl, rfl⟩
      go_wp2
      go_ret
      exact ⟨rfl, HBW.out.trans (HB13.out.mono HBW.out.size)⟩
  · go_wp2
    go_ret
    exact ⟨rfl, HBW.out.trans (hb0.mono HBW.out.size)⟩

set_option maxRecDepth 100000 in
/-- What the walk gives, for every argument that can be read and every world. -/
theorem contract (H : Type) (enc : TypeId × Value → H) (W : World) (base : Nat) (args : Array Value) (ds gs : List (DataW H)) (before : List MemPlace)
    (hval : ∀ (j : Nat) t v, Try.f5.params[j]? = some t → args[j]? = some v → Value.okWide Try.prog W .any base t v)
    (hW : DataW.Whole enc Try.prog Try.f5.params.toList Rows.fnExactOpsOnSpec.vars false W args.toList ds gs before) (hsh : W.ShapedOpen Try.prog) :
    Calls Try.prog 5 args W fun e W' => ∃ v, e = .returned v ∧ Rows.fnExactOpsOnSpec.post enc Try.prog Try.f5 false true false false W args v W' := by
  have hW' := hW
  obtain ⟨p, q, hA0, hV, rfl, hfz, hnd⟩ := hW
  have hA : DataW.TrodAll enc Try.prog W 0 (fun _ => true) true Try.f5.params.toList args.toList ds p := hA0
  rw [Try.params5] at hA hval
  obtain ⟨v0, vs0, d0, ds0, p0, q0, hargs, rfl, rfl, h0, r0⟩ := trodAll_cons hA
  obtain ⟨v1, vs1, d1, ds1, p1, q1, rfl, rfl, rfl, h1, r1⟩ := trodAll_cons r0
  obtain ⟨rfl, rfl, rfl⟩ := trodAll_nil r1
  obtain rfl : args = #[v0, v1] := by cases args; simp_all
  obtain ⟨rfl, rfl⟩ := trodVars_none hV
  have k0 := h0
  have lt0 : ∀ x ∈ p0, x.block < W.heap.size := by obtain ⟨m, hm⟩ := k0; exact DataW.trod_lt m _ _ _ hm
  have k1 := h1
  have lt1 : ∀ x ∈ p1, x.block < W.heap.size := by obtain ⟨m, hm⟩ := k1; exact DataW.trod_lt m _ _ _ hm
  obtain ⟨ca0, rfl, _⟩ := okWide_struct Try.underlying24 (hval 0 24 v0 rfl rfl)
  obtain ⟨m0, a0, l0, c0, z0, hcs0, w0⟩ : ∃ m A len cap js, ca0 = #[.int .i64 m, .slice A len cap] ∧ IsShopA W m A len cap js := by
    obtain ⟨fuel, hf⟩ := h0
    obtain ⟨m, A', l', c', js, hcs, hj⟩ := open_shop Try.underlying24 ⟨⟨rfl, rfl⟩, by kernel_rfl, by kernel_rfl, by kernel_rfl⟩ Try.underlying3 Try.underlying22 Try.underlying127 Try.underlying162 (by kernel_rfl) (by kernel_rfl) (by kernel_rfl) Try.underlying3 Try.underlying3 hf
    exact ⟨m, A', l', c', js, by simpa [Value.cells] using congrArg List.toArray hcs, hj⟩
  subst hcs0
  obtain ⟨a1, rfl, rfl, rfl, w1⟩ := open_int Try.underlying3 (hval 1 3 v1 rfl rfl) h1

  clear hA0
  refine (walk m0 a0 l0 c0 z0 a1 w1 W w0 ).mono fun e W' ⟨he, bel⟩ => ?_
  subst he
  exact ⟨_, rfl, _, _, _, [], _, [], hW', trodAll_mk1 (shut_bool Try.underlying4 _), (trodAll_cons_mk (Below.trod laidOut (by kernel_rfl) (of_decide_eq_true (by kernel_rfl)) k0 bel lt0) (trodAll_cons_mk (Below.trod laidOut (by kernel_rfl) (of_decide_eq_true (by kernel_rfl)) k1 bel lt1) trodAll_mk0)), rfl, bel.frame _, fun h => by cases h⟩

set_option maxRecDepth 100000 in
theorem lifted (os : Os) (started : os.Started) (H : Type) (enc : TypeId × Value → H) :
    ReturnsInHanded {} Try.checked os 5 .any (Rows.fnExactOpsOnSpec.pre6 enc Try.prog Try.f5 Rows.fnExactOpsOnRow.domain false) (Rows.fnExactOpsOnSpec.post enc Try.prog Try.f5 false true false false) := by
  refine returnsInHanded_of_change_shaped (C := Try.checked) own started (by kernel_rfl) Try.func5
    (ChangeSpec.witness6 (enc := enc) (C := Try.checked) false ⟨#[], #[.agg #[.int .i64 0, .slice none 0 0], .int .i64 0], []⟩ 8 (by kernel_rfl) (by kernel_rfl) (by kernel_rfl) (by kernel_rfl)) ?_
  intro W base args ds gs before hval hW _ _ hsh _
  exact contract H enc W base args ds gs before hval hW hsh

theorem proved : Rows.FnExactOpsOnSaid :=
  OpenClaim.holds_of_wide 5 Try.f5 rfl rfl rfl rfl rfl rfl rfl ⟨rfl, rfl, rfl, rfl, rfl⟩ rfl rfl rfl rfl rfl (by kernel_rfl) Try.func5 closed
    (of_decide_eq_true (by kernel_rfl)) (by unfold Func.isWrapper; first | (rw [if_pos (by decide +kernel)]; kernel_rfl) | (rw [if_neg (by decide +kernel)]; exact ⟨rfl, rfl⟩))
    (fun os started H enc _ => lifted os started H enc)
end Go.Proofs.Ytjemjdlaoebffaa.fnExactOpsOn
