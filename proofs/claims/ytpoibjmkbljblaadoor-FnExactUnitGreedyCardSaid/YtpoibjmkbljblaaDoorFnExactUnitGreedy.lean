/- UnitGreedy of the program and of the model agree at all lists of jobs, the arguments are left as they were, what is returned is memory of its own at each call, and the law's function returns true. No condition but the row's own list of the library's tables (the card ties them). -/
import Derived.Test.YtpoibjmkbljblaaDoorCards
import Derived.Test.YtpoibjmkbljblaaDoorTie
import Derived.Deep.DeepHandedRow
import Derived.Lib.LaidTab
import Derived.Test.YtpoibjmkbljblaaDoorBase
import Derived.Test.YtpoibjmkbljblaaDoorUgI
import Derived.Test.YtpoibjmkbljblaaDoorArgJ
import Derived.Test.YtpoibjmkbljblaaDoorSegH
import Derived.WalkKit
import Derived.ProofKit
import Derived.HandedShaped
import Derived.OpenShut
import Derived.ShutString
namespace Go.Proofs.YtpoibjmkbljblaaDoor.fnExactUnitGreedy
open Go.ChangeShapes Go.WideShapes Go.ChangeAt Go.RowKit Go.WideMaps Go.WideElems
open Go.ChangeMaps (open_string shut_string)
set_option linter.unusedVariables false

theorem own : ownKnob Tryd.prog.godebug = none := by kernel_rfl
theorem laidOut : laidOutB Tryd.prog = true := by kernel_rfl



set_option maxRecDepth 100000 in
set_option maxHeartbeats 4000000 in
/-- THE WALK: the law's function returns true and leaves what was there as it was. -/
theorem walk (a0 : Option Addr) (l0 c0 : Nat) (z0 : List J) (w : World) (w0 : IsJobsA w a0 l0 c0 z0) (htz : TzTab w) :
    Calls Tryd.prog 9 #[.slice a0 l0 c0] w fun e w' => e = .returned (.bool true) ∧ Below w.heap.size w w' := by
  obtain ⟨rfl, hlc0, hcm0, hr0, _⟩ := w0
  have hm0 : z0.length ≤ maxLen := by omega
  have HR0 := Lib.hid hr0
  clear hr0
  have HTZ := Lib.hid htz
  clear htz
  have hL0 := greR_len z0
  go_enter Tryd.func9, Tryd.ntmps9
  go_wp2_with fail
  refine (szJobS_any a0 z0.length c0 _ hm0).mono ?_
  rintro e _ ⟨⟨rfl, hn0⟩ | ⟨rfl, hn0⟩, rfl⟩
  · skip
    go_wp2_with fail
    refine (toJobS_seg _ _ z0 _ HR0.out (by omega)).mono ?_
    rintro e v1 ⟨g1, rfl, hs1, hb1⟩
    have HB1 := Lib.hid (hb1)
    have hz1 := hb1.size
    clear hb1
    have S_t0 := Lib.hid hs1
    clear hs1
    go_wp2_with fail
    refine (spec_UnitGreedy _ _ z0 _ S_t0.out.row (by omega)).mono ?_
    rintro e v2 ⟨A2_0, c2_0, rfl, hs2_0, hb2⟩
    clear S_t0
    have HB2 := Lib.hid (HB1.out.trans (hb2.mono HB1.out.size))
    have hz2 := hb2.size
    clear HB1 hb2
    have S_w0 := Lib.hid hs2_0
    clear hs2_0
    go_wp2_with fail
    refine (toJobS_seg _ _ z0 _ (HR0.out.below HB2.out) (by omega)).mono ?_
    rintro e v3 ⟨g3, rfl, hs3, hb3⟩
    have HB3 := Lib.hid (HB2.out.trans (hb3.mono HB2.out.size))
    have hz3 := hb3.size
    have S_w0_3 := Lib.hid (S_w0.out.below hb3)
    clear HB2 S_w0 hb3
    have S_x0 := Lib.hid hs3
    clear hs3
    go_wp2_with fail
    refine (impl_UnitGreedy _ _ z0 _ S_x0.out.row (by omega) (HTZ.out.below HB3.out)).mono ?_
    rintro e v4 ⟨A4_0, c4_0, rfl, hs4_0, hb4⟩
    have HB4 := Lib.hid (HB3.out.trans (hb4.mono HB3.out.size))
    have hz4 := hb4.size
    have S_w0_4 := Lib.hid (S_w0_3.out.below hb4)
    have S_x0_4 := Lib.hid (S_x0.out.below hb4)
    clear HB3 S_w0_3 S_x0 hb4
    have S_g0 := Lib.hid hs4_0
    clear hs4_0
    go_wp2_with fail
    refine (eqIntS_seg _ _ _ _ (greR z0).1 _ S_g0.out.row S_w0_4.out.row (by omega)).mono ?_
    rintro e v5 ⟨rfl, hb5⟩
    have HB5 := Lib.hid (HB4.out.trans (hb5.mono HB4.out.size))
    have hz5 := hb5.size
    have S_w0_5 := Lib.hid (S_w0_4.out.below hb5)
    have S_x0_5 := Lib.hid (S_x0_4.out.below hb5)
    have S_g0_5 := Lib.hid (S_g0.out.below hb5)
    clear HB4 S_w0_4 S_x0_4 S_g0 hb5
    go_wp2_with fail
    refine (toJobS_seg _ _ z0 _ (HR0.out.below HB5.out) (by omega)).mono ?_
    rintro e v6 ⟨g6, rfl, hs6, hb6⟩
    have HB6 := Lib.hid (HB5.out.trans (hb6.mono HB5.out.size))
    have hz6 := hb6.size
    have S_w0_6 := Lib.hid (S_w0_5.out.below hb6)
    have S_x0_6 := Lib.hid (S_x0_5.out.below hb6)
    have S_g0_6 := Lib.hid (S_g0_5.out.below hb6)
    clear HB5 S_w0_5 S_x0_5 S_g0_5 hb6
    have S_t5 := Lib.hid hs6
    clear hs6
    go_wp2_with fail
    refine (eqJobS_same _ _ _ _ z0 _ S_x0_6.out.row S_t5.out.row (by omega)).mono ?_
    rintro e v7 ⟨rfl, hb7⟩
    have HB7 := Lib.hid (HB6.out.trans (hb7.mono HB6.out.size))
    have hz7 := hb7.size
    have S_w0_7 := Lib.hid (S_w0_6.out.below hb7)
    have S_x0_7 := Lib.hid (S_x0_6.out.below hb7)
    have S_g0_7 := Lib.hid (S_g0_6.out.below hb7)
    have S_t5_7 := Lib.hid (S_t5.out.below hb7)
    clear HB6 S_w0_6 S_x0_6 S_g0_6 S_t5 hb7
    clear S_t5_7
    go_wp2_with fail
    refine (markJobS_seg _ _ _ _ _ _ _ _ S_x0_7.out (by omega) (by omega) (by omega)).mono ?_
    rintro e v8 ⟨rfl, hs8, ht8⟩
    have HB8 := Lib.hid (HB7.out.trans (ht8.below (by omega) (by omega)))
    have hz8 := ht8.size
    have S_w0_8 := Lib.hid (S_w0_7.out.keep ht8 (by omega))
    have S_g0_8 := Lib.hid (S_g0_7.out.keep ht8 (by omega))
    clear HB7 S_w0_7 S_g0_7 ht8
    clear S_x0_7
    have S_x0_8 := Lib.hid hs8
    clear hs8
    go_wp2_with fail
    refine (eqIntS_seg _ _ _ _ (greR z0).1 _ S_g0_8.out.row S_w0_8.out.row (by omega)).mono ?_
    rintro e v9 ⟨rfl, hb9⟩
    clear S_x0_8
    have HB9 := Lib.hid (HB8.out.trans (hb9.mono HB8.out.size))
    have hz9 := hb9.size
    have S_w0_9 := Lib.hid (S_w0_8.out.below hb9)
    have S_g0_9 := Lib.hid (S_g0_8.out.below hb9)
    clear HB8 S_w0_8 S_g0_8 hb9
    go_wp2_with fail
    refine (markIntS_seg _ _ _ _ _ _ _ _ S_g0_9.out (by omega) (by omega) (by omega)).mono ?_
    rintro e v10 ⟨rfl, hs10, ht10⟩
    have HB10 := Lib.hid (HB9.out.trans (ht10.below (by omega) (by omega)))
    have hz10 := ht10.size
    have S_w0_10 := Lib.hid (S_w0_9.out.keep ht10 (by omega))
    clear HB9 S_w0_9 ht10
    clear S_g0_9
    have S_g0_10 := Lib.hid hs10
    clear hs10
    go_wp2_with fail
    refine (heldIntS_seg _ _ _ _ _ S_g0_10.out.row (by omega) (by omega) (by omega)).mono ?_
    rintro e _ ⟨rfl, rfl⟩
    go_wp2_with fail
    refine (toJobS_seg _ _ z0 _ (HR0.out.below HB10.out) (by omega)).mono ?_
    rintro e v11 ⟨g11, rfl, hs11, hb11⟩
    have HB11 := Lib.hid (HB10.out.trans (hb11.mono HB10.out.size))
    have hz11 := hb11.size
    have S_w0_11 := Lib.hid (S_w0_10.out.below hb11)
    have S_g0_11 := Lib.hid (S_g0_10.out.below hb11)
    clear HB10 S_w0_10 S_g0_10 hb11
    have S_t10 := Lib.hid hs11
    clear hs11
    go_wp2_with fail
    refine (impl_UnitGreedy _ _ z0 _ S_t10.out.row (by omega) (HTZ.out.below HB11.out)).mono ?_
    rintro e v12 ⟨A12_0, c12_0, rfl, hs12_0, hb12⟩
    clear S_t10
    have HB12 := Lib.hid (HB11.out.trans (hb12.mono HB11.out.size))
    have hz12 := hb12.size
    have S_w0_12 := Lib.hid (S_w0_11.out.below hb12)
    have S_g0_12 := Lib.hid (S_g0_11.out.below hb12)
    clear HB11 S_w0_11 S_g0_11 hb12
    have S_h0 := Lib.hid hs12_0
    clear hs12_0
    go_wp2_with fail
    refine (eqIntS_seg _ _ _ _ (greR z0).1 _ S_h0.out.row S_w0_12.out.row (by omega)).mono ?_
    rintro e v13 ⟨rfl, hb13⟩
    have HB13 := Lib.hid (HB12.out.trans (hb13.mono HB12.out.size))
    have hz13 := hb13.size
    have S_w0_13 := Lib.hid (S_w0_12.out.below hb13)
    have S_g0_13 := Lib.hid (S_g0_12.out.below hb13)
    have S_h0_13 := Lib.hid (S_h0.out.below hb13)
    clear HB12 S_w0_12 S_g0_12 S_h0 hb13
    go_wp2_with fail
    refine (heldIntS_seg _ _ _ _ _ S_g0_13.out.row (by omega) (by omega) (by omega)).mono ?_
    rintro e _ ⟨rfl, rfl⟩
    go_wp2
    go_ret
    exact ⟨rfl, HB13.out⟩
  · go_wp2
    go_ret
    exact ⟨rfl, Below.refl _ _⟩

set_option maxRecDepth 100000 in
/-- What the walk gives, for every argument that can be read and every world. -/
theorem contract (H : Type) (enc : TypeId × Value → H) (W : World) (base : Nat) (args : Array Value) (ds gs : List (DataW H)) (before : List MemPlace)
    (hval : ∀ (j : Nat) t v, Tryd.f9.params[j]? = some t → args[j]? = some v → Value.okWide Tryd.prog W .any base t v)
    (hW : DataW.Whole enc Tryd.prog Tryd.f9.params.toList Rows.fnExactUnitGreedySpec.vars false W args.toList ds gs before) (hsh : W.ShapedOpen Tryd.prog) (hL : laidMetH Tryd.prog Rows.fnExactUnitGreedyRow.laid W) :
    Calls Tryd.prog 9 args W fun e W' => ∃ v, e = .returned v ∧ Rows.fnExactUnitGreedySpec.post enc Tryd.prog Tryd.f9 false true false false W args v W' := by
  have hW' := hW
  obtain ⟨p, q, hA0, hV, rfl, hfz, hnd⟩ := hW
  have hA : DataW.TrodAll enc Tryd.prog W 0 (fun _ => true) true Tryd.f9.params.toList args.toList ds p := hA0
  rw [Tryd.params9] at hA hval
  obtain ⟨v0, vs0, d0, ds0, p0, q0, hargs, rfl, rfl, h0, r0⟩ := trodAll_cons hA
  obtain ⟨rfl, rfl, rfl⟩ := trodAll_nil r0
  obtain rfl : args = #[v0] := by cases args; simp_all
  obtain ⟨rfl, rfl⟩ := trodVars_none hV
  have k0 := h0
  have lt0 : ∀ x ∈ p0, x.block < W.heap.size := by obtain ⟨m, hm⟩ := k0; exact DataW.trod_lt m _ _ _ hm
  obtain ⟨a0, l0, c0, rfl⟩ := okWide_slice Tryd.underlying22 (hval 0 22 v0 rfl rfl)
  obtain ⟨z0, w0⟩ : ∃ zs, IsJobsA W a0 l0 c0 zs := by
    obtain ⟨fuel, hf⟩ := h0
    obtain ⟨A', l', c', js, hcs, hj⟩ := open_jobs Tryd.underlying22 Tryd.underlying60 (by kernel_rfl) (by kernel_rfl) Tryd.underlying3 Tryd.underlying3 Tryd.underlying3 Tryd.underlying3 hf
    simp [Value.cells] at hcs
    obtain ⟨rfl, rfl, rfl⟩ := hcs
    exact ⟨js, hj⟩
  have htz : TzTab W := tzTab_laid 1 hL (by kernel_rfl)
  clear hA0
  refine (walk a0 l0 c0 z0 W w0 htz).mono fun e W' ⟨he, bel⟩ => ?_
  subst he
  exact ⟨_, rfl, _, _, _, [], _, [], hW', trodAll_mk1 (shut_bool Tryd.underlying4 _), (trodAll_cons_mk (Below.trod laidOut (by kernel_rfl) (of_decide_eq_true (by kernel_rfl)) k0 bel lt0) trodAll_mk0), rfl, bel.frame _, fun h => by cases h⟩

/-- A world for the witness: the settled one, the listed variables holding what their initialisers lay. -/
noncomputable def laidWorld (os : Os) : World :=
  { World.holding Tryd.prog os ⟨#[], #[], []⟩ with heap := (((World.holding Tryd.prog os ⟨#[], #[], []⟩).heap.modify 0 fun
      | .cells _ t frozen => .cells #[.int .u8 0, .int .u8 1, .int .u8 28, .int .u8 2, .int .u8 29, .int .u8 14, .int .u8 24, .int .u8 3, .int .u8 30, .int .u8 22, .int .u8 20, .int .u8 15, .int .u8 25, .int .u8 17, .int .u8 4, .int .u8 8, .int .u8 31, .int .u8 27, .int .u8 13, .int .u8 23, .int .u8 21, .int .u8 19, .int .u8 16, .int .u8 7, .int .u8 26, .int .u8 12, .int .u8 18, .int .u8 6, .int .u8 11, .int .u8 5, .int .u8 10, .int .u8 9] t frozen
      | o => o).modify 1 fun
      | .cells _ t frozen => .cells #[.int .u8 0, .int .u8 1, .int .u8 56, .int .u8 2, .int .u8 57, .int .u8 49, .int .u8 28, .int .u8 3, .int .u8 61, .int .u8 58, .int .u8 42, .int .u8 50, .int .u8 38, .int .u8 29, .int .u8 17, .int .u8 4, .int .u8 62, .int .u8 47, .int .u8 59, .int .u8 36, .int .u8 45, .int .u8 43, .int .u8 51, .int .u8 22, .int .u8 53, .int .u8 39, .int .u8 33, .int .u8 30, .int .u8 24, .int .u8 18, .int .u8 12, .int .u8 5, .int .u8 63, .int .u8 55, .int .u8 48, .int .u8 27, .int .u8 60, .int .u8 41, .int .u8 37, .int .u8 16, .int .u8 46, .int .u8 35, .int .u8 44, .int .u8 21, .int .u8 52, .int .u8 32, .int .u8 23, .int .u8 11, .int .u8 54, .int .u8 26, .int .u8 40, .int .u8 15, .int .u8 34, .int .u8 20, .int .u8 31, .int .u8 10, .int .u8 25, .int .u8 14, .int .u8 19, .int .u8 9, .int .u8 13, .int .u8 8, .int .u8 7, .int .u8 6] t frozen
      | o => o) }
theorem laid_met (os : Os) : laidMet Tryd.prog Rows.fnExactUnitGreedyRow.laid ((laidWorld os).forCall (fun _ _ => 0) ⟨#[], #[.slice none 0 0], []⟩).memory :=
  laidMet_of_run' 8 (by kernel_rfl) (by kernel_rfl)
theorem reads (os : Os) {H : Type} (enc : TypeId × Value → H) : ∃ places, DataW.whole enc Tryd.prog ((laidWorld os).forCall (fun _ _ => 0) ⟨#[], #[.slice none 0 0], []⟩).memory Tryd.f9.params.toList Rows.fnExactUnitGreedySpec.vars false #[(.slice none 0 0 : Value)].toList 8 = some ([.nil], [], places) :=
  ⟨[], by kernel_rfl⟩

set_option maxRecDepth 100000 in
theorem lifted (os : Os) (started : os.Started) (H : Type) (enc : TypeId × Value → H) (F : Stop.Interp) :
    ReturnsInHanded {} Tryd.checked os 9 .any ((OpenSpec.ofChange Rows.fnExactUnitGreedySpec).preRow enc Tryd.prog Tryd.f9 Rows.fnExactUnitGreedyRow.domain false Rows.fnExactUnitGreedyRow.laid) (((OpenSpec.ofChange Rows.fnExactUnitGreedySpec).at F).post enc Tryd.prog Tryd.f9 false true false false) := by
  obtain ⟨places, hx⟩ := reads os enc
  refine returnsInHanded_of_row (C := Tryd.checked) (s := (OpenSpec.ofChange Rows.fnExactUnitGreedySpec)) own started (by kernel_rfl) Tryd.func9
    (witness_row_at (enc := enc) (C := Tryd.checked) false (laidWorld os) #[.slice none 0 0] rfl (by kernel_rfl) (by kernel_rfl) (by kernel_rfl)
      (OpenSpec.preRow_of_cond 8 hx (by kernel_rfl) (fun k hk => by cases hk) (by kernel_rfl) (laid_met os))) ?_
  intro W base args ds gs before hval hW _ _ _ hL hsh _
  exact contract H enc W base args ds gs before hval hW hsh hL

theorem said : Rows.FnExactUnitGreedySaid :=
  OpenClaim.holds_of_cond 9 Tryd.f9 rfl rfl rfl rfl rfl rfl rfl ⟨rfl, rfl, rfl, rfl, rfl⟩ rfl rfl rfl rfl rfl (by kernel_rfl) Tryd.func9 (by kernel_rfl)
    (of_decide_eq_true (by kernel_rfl)) (by unfold Func.isWrapper; first | (rw [if_pos (by decide +kernel)]; kernel_rfl) | (rw [if_neg (by decide +kernel)]; exact ⟨rfl, rfl⟩))
    (fun os started H enc _ F => by rw [OpenClaim.pre_eq_preRow]; exact lifted os started H enc F)

/-- No parameter wants a stand-in; the program's own looks are off: what the card asks. -/
theorem plain (f : FuncId) (fn : Func) (hf : Tryd.pinned.checked.prog.funcNamed "loop.example/g01103/laws.FnExactUnitGreedy" = some f) (hfn : Tryd.pinned.checked.prog.funcs[f]? = some fn) :
    false = Tryd.pinned.checked.prog.looks [] ∧ ∀ (j : Nat) t, fn.params[j]? = some t → Tryd.pinned.checked.prog.wantsStandIn t = false := by
  obtain rfl : f = 9 := Option.some.inj ((show Tryd.prog.funcNamed "loop.example/g01103/laws.FnExactUnitGreedy" = some 9 by kernel_rfl).symm.trans hf) |>.symm
  obtain rfl : fn = Tryd.f9 := (Option.some.inj (Tryd.func9.symm.trans hfn)).symm
  refine ⟨by kernel_rfl, fun j t ht => ?_⟩
  rw [Tryd.params9] at ht
  have hm := Array.mem_of_getElem? ht
  simp only [List.mem_toArray, List.mem_cons, List.not_mem_nil, or_false] at hm
  subst hm
  exact (show Tryd.prog.wantsStandIn 22 = false by kernel_rfl)

theorem proved : Rows.FnExactUnitGreedyCardSaid :=
  Claim7.holds_tied_plain_at .later [] _ _ _ _ said (fun _ h => by cases h) (by kernel_rfl) (fun _ h => by cases h) fnExactUnitGreedy_row_tie rfl ⟨rfl, rfl⟩ (by kernel_rfl) rfl plain (by kernel_rfl)
end Go.Proofs.YtpoibjmkbljblaaDoor.fnExactUnitGreedy
