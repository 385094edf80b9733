/- AreScenarios of the program and of the model agree at all lists of lists of jobs, the argument is left as it was, and the law's function returns true. No condition. -/
import Derived.Test.YtjemjdlaoebffaaRows
import Derived.Test.YtjemjdlaoebffaaBase
import Derived.Test.YtjemjdlaoebffaaFacts
import Derived.Test.YtjemjdlaoebffaaScI
import Derived.WalkKit
import Derived.ProofKit
import Derived.HandedShaped
import Derived.OpenShut
import Derived.ShutString
namespace Go.Proofs.Ytjemjdlaoebffaa.fnExactAreScenarios
open Go.ChangeShapes Go.WideShapes Go.ChangeAt Go.RowKit Go.WideMaps Go.WideElems
open Go.ChangeMaps (open_string shut_string)
set_option linter.unusedVariables false

theorem own : ownKnob Try.prog.godebug = none := by kernel_rfl
theorem laidOut : laidOutB Try.prog = true := fact_laid
theorem closed : joinedFacts Try.prog 7 Try.f7 Rows.fnExactAreScenariosSpec Rows.fnExactAreScenariosRow = true := by
  unfold joinedFacts
  exact (and_t (and_t (and_t (and_t (and_t (and_t (and_t (and_t (and_t (and_t (and_t (and_t (and_t (and_t (and_t (and_t (and_t (and_t (and_t (and_t (and_t (and_t (and_t (and_t (and_t (and_t (and_t (and_t (and_t (and_t (and_t (by kernel_rfl) fact_laid) fact_maps) (by kernel_rfl)) (by kernel_rfl)) (by kernel_rfl)) (by kernel_rfl)) (by kernel_rfl)) (by kernel_rfl)) (by kernel_rfl)) (by kernel_rfl)) (by kernel_rfl)) (by kernel_rfl)) (by kernel_rfl)) (by kernel_rfl)) (by kernel_rfl)) (by kernel_rfl)) (by kernel_rfl)) (by kernel_rfl)) (by kernel_rfl)) (by kernel_rfl)) (by kernel_rfl)) (by kernel_rfl)) (by kernel_rfl)) fact_heard) fact_enter) fact_lifts) fact_make) (by kernel_rfl)) (by kernel_rfl)) (by kernel_rfl)) (by kernel_rfl))



set_option maxRecDepth 100000 in
set_option maxHeartbeats 4000000 in
/-- THE WALK: the law's function returns true and leaves what was there as it was. -/
theorem walk (a0 : Option Addr) (l0 c0 : Nat) (z0 : List (List J)) (w : World) (w0 : IsJobSSA w a0 l0 c0 z0)  :
    Calls Try.prog 7 #[.slice a0 l0 c0] w fun e w' => e = .returned (.bool true) ∧ Below w.heap.size w w' := by
  obtain ⟨rfl, hlc0, hcm0, hr0, hw0⟩ := w0
  have hm0 : z0.length ≤ maxLen := by omega
  have HR0 := Lib.hid hr0
  have HW0 := Lib.hid (fun xs hx => (hw0 xs hx).1)
  clear hr0 hw0
  go_enter Try.func7, Try.ntmps7
  go_wp2_with fail
  refine (szJobSS_any a0 _ c0 z0 _ _ rfl HR0.out hm0 HW0.out (by omega) (by omega)).mono ?_
  rintro e _ ⟨⟨q0, rfl, hq0, hn0⟩ | rfl, rfl⟩
  · skip
    go_wp2_with fail
    refine (toJobSS_seg _ _ _ z0 _ rfl HR0.out (by omega) (by omega)).mono ?_
    rintro e v1 ⟨g1, rfl, hs1, hb1⟩
    have HB1 := Lib.hid (hb1)
    have hz1 := hb1.size
    clear hb1
    have S_t0 := Lib.hid hs1
    clear hs1
    go_wp2_with fail
    refine (spec_AreScenarios _ _ z0 _ S_t0.out.row ⟨by omega, by omega⟩).mono ?_
    rintro e v2 ⟨rfl, hb2⟩
    clear S_t0
    have HB2 := Lib.hid (HB1.out.trans (hb2.mono HB1.out.size))
    have hz2 := hb2.size
    clear HB1 hb2
    go_wp2_with fail
    refine (toJobSS_seg _ _ _ z0 _ rfl (HR0.out.below HB2.out) (by omega) (by omega)).mono ?_
    rintro e v3 ⟨g3, rfl, hs3, hb3⟩
    have HB3 := Lib.hid (HB2.out.trans (hb3.mono HB2.out.size))
    have hz3 := hb3.size
    clear HB2 hb3
    have S_x0 := Lib.hid hs3
    clear hs3
    go_wp2_with fail
    refine (impl_AreScenarios _ _ z0 _ S_x0.out.row ⟨by omega, by omega⟩).mono ?_
    rintro e v4 ⟨rfl, hb4⟩
    have HB4 := Lib.hid (HB3.out.trans (hb4.mono HB3.out.size))
    have hz4 := hb4.size
    have S_x0_4 := Lib.hid (S_x0.out.below hb4)
    clear HB3 S_x0 hb4
    go_wp2_with fail
    refine (toJobSS_seg _ _ _ z0 _ rfl (HR0.out.below HB4.out) (by omega) (by omega)).mono ?_
    rintro e v5 ⟨g5, rfl, hs5, hb5⟩
    have HB5 := Lib.hid (HB4.out.trans (hb5.mono HB4.out.size))
    have hz5 := hb5.size
    have S_x0_5 := Lib.hid (S_x0_4.out.below hb5)
    clear HB4 S_x0_4 hb5
    have S_t4 := Lib.hid hs5
    clear hs5
    go_wp2_with fail
    refine (eqJobSS_seg _ _ _ _ _ z0 _ rfl S_x0_5.out.row S_t4.out.row ⟨by omega, by omega⟩).mono ?_
    rintro e v6 ⟨rfl, hb6⟩
    have HB6 := Lib.hid (HB5.out.trans (hb6.mono HB5.out.size))
    have hz6 := hb6.size
    have S_x0_6 := Lib.hid (S_x0_5.out.below hb6)
    have S_t4_6 := Lib.hid (S_t4.out.below hb6)
    clear HB5 S_x0_5 S_t4 hb6
    clear S_t4_6
    go_wp2
    go_ret
    exact ⟨rfl, HB6.out⟩
  · go_wp2
    go_ret
    exact ⟨rfl, Below.refl _ _⟩

set_option maxRecDepth 100000 in
/-- What the walk gives, for every argument that can be read and every world. -/
theorem contract (H : Type) (enc : TypeId × Value → H) (W : World) (base : Nat) (args : Array Value) (ds gs : List (DataW H)) (before : List MemPlace)
    (hval : ∀ (j : Nat) t v, Try.f7.params[j]? = some t → args[j]? = some v → Value.okWide Try.prog W .any base t v)
    (hW : DataW.Whole enc Try.prog Try.f7.params.toList Rows.fnExactAreScenariosSpec.vars false W args.toList ds gs before) (hsh : W.ShapedOpen Try.prog) :
    Calls Try.prog 7 args W fun e W' => ∃ v, e = .returned v ∧ Rows.fnExactAreScenariosSpec.post enc Try.prog Try.f7 false true false false W args v W' := by
  have hW' := hW
  obtain ⟨p, q, hA0, hV, rfl, hfz, hnd⟩ := hW
  have hA : DataW.TrodAll enc Try.prog W 0 (fun _ => true) true Try.f7.params.toList args.toList ds p := hA0
  rw [Try.params7] at hA hval
  obtain ⟨v0, vs0, d0, ds0, p0, q0, hargs, rfl, rfl, h0, r0⟩ := trodAll_cons hA
  obtain ⟨rfl, rfl, rfl⟩ := trodAll_nil r0
  obtain rfl : args = #[v0] := by cases args; simp_all
  obtain ⟨rfl, rfl⟩ := trodVars_none hV
  have k0 := h0
  have lt0 : ∀ x ∈ p0, x.block < W.heap.size := by obtain ⟨m, hm⟩ := k0; exact DataW.trod_lt m _ _ _ hm
  obtain ⟨a0, l0, c0, rfl⟩ := okWide_slice Try.underlying56 (hval 0 56 v0 rfl rfl)
  obtain ⟨z0, w0⟩ : ∃ zs, IsJobSSA W a0 l0 c0 zs := by
    obtain ⟨fuel, hf⟩ := h0
    obtain ⟨A', l', c', js, hcs, hj⟩ := open_JobSS Try.underlying56 Try.underlying45 Try.underlying97 (by kernel_rfl) (by kernel_rfl) (by kernel_rfl) Try.underlying3 Try.underlying3 Try.underlying3 Try.underlying3 hf
    simp [Value.cells] at hcs
    obtain ⟨rfl, rfl, rfl⟩ := hcs
    exact ⟨js, hj⟩

  clear hA0
  refine (walk a0 l0 c0 z0 W w0 ).mono fun e W' ⟨he, bel⟩ => ?_
  subst he
  exact ⟨_, rfl, _, _, _, [], _, [], hW', trodAll_mk1 (shut_bool Try.underlying4 _), (trodAll_cons_mk (Below.trod laidOut (by kernel_rfl) (of_decide_eq_true (by kernel_rfl)) k0 bel lt0) trodAll_mk0), rfl, bel.frame _, fun h => by cases h⟩

set_option maxRecDepth 100000 in
theorem lifted (os : Os) (started : os.Started) (H : Type) (enc : TypeId × Value → H) :
    ReturnsInHanded {} Try.checked os 7 .any (Rows.fnExactAreScenariosSpec.pre6 enc Try.prog Try.f7 Rows.fnExactAreScenariosRow.domain false) (Rows.fnExactAreScenariosSpec.post enc Try.prog Try.f7 false true false false) := by
  refine returnsInHanded_of_change_shaped (C := Try.checked) own started (by kernel_rfl) Try.func7
    (ChangeSpec.witness6 (enc := enc) (C := Try.checked) false ⟨#[], #[.slice none 0 0], []⟩ 8 (by kernel_rfl) (by kernel_rfl) (by kernel_rfl) (by kernel_rfl)) ?_
  intro W base args ds gs before hval hW _ _ hsh _
  exact contract H enc W base args ds gs before hval hW hsh

theorem proved : Rows.FnExactAreScenariosSaid :=
  OpenClaim.holds_of_wide 7 Try.f7 rfl rfl rfl rfl rfl rfl rfl ⟨rfl, rfl, rfl, rfl, rfl⟩ rfl rfl rfl rfl rfl (by kernel_rfl) Try.func7 closed
    (of_decide_eq_true (by kernel_rfl)) (by unfold Func.isWrapper; first | (rw [if_pos (by decide +kernel)]; kernel_rfl) | (rw [if_neg (by decide +kernel)]; exact ⟨rfl, rfl⟩))
    (fun os started H enc _ => lifted os started H enc)
end Go.Proofs.Ytjemjdlaoebffaa.fnExactAreScenarios
