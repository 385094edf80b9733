/- SplitString of the program and of the model agree at all texts and separators; what the program returns is memory of its own, at each call. The law's function returns true. No condition. -/
import Derived.Test.YteflgljifbcelaaRows
import Derived.Test.YteflgljifbcelaaBase
import Derived.Test.YteflgljifbcelaaSplit2
import Derived.Test.YteflgljifbcelaaMark
import Derived.WalkKit
import Derived.ProofKit
import Derived.HandedShaped
import Derived.OpenShut
import Derived.ShutString
namespace Go.Proofs.Yteflgljifbcelaa.fnExactSplitString
open Go.ChangeShapes Go.WideShapes Go.ChangeAt Go.RowKit Go.WideMaps Go.WideElems
open Go.ChangeMaps (open_string shut_string)
set_option linter.unusedVariables false

theorem own : ownKnob Try.prog.godebug = none := by kernel_rfl
theorem laidOut : laidOutB Try.prog = true := by kernel_rfl



set_option maxRecDepth 100000 in
set_option maxHeartbeats 2000000 in
/-- THE WALK: the law's function returns true and leaves what was there as it was. -/
theorem walk (a0 : ByteArray) (w0 : a0.size ≤ maxLen) (a1 : ByteArray) (w1 : a1.size ≤ maxLen) (w : World)   :
    Calls Try.prog 4 #[.string a0, .string a1] w fun e w' => e = .returned (.bool true) ∧ Below w.heap.size w w' := by
  have hm0 := w0
  have hm1 := w1
  unfold maxLen at hm0 hm1
  by_cases hb0 : 1048576 < a0.size
  · go_enter Try.func4, Try.ntmps4
    go_wp2
    go_ret
    exact ⟨rfl, Below.refl _ _⟩
  · by_cases hb1 : 1048576 < a1.size
    · go_enter Try.func4, Try.ntmps4
      go_wp2
      go_ret
      exact ⟨rfl, Below.refl _ _⟩
    · obtain ⟨xs, b, hS, hI, hlen, _⟩ := split_both a0 a1 (by omega) (by omega)
      have HS := Lib.hid hS; have HI := Lib.hid hI
      clear hS hI
      go_enter Try.func4, Try.ntmps4
      go_wp2_with fail
      refine (HS.out _).mono ?_
      rintro e w1 ⟨v1, rfl, hown1, hbel1⟩
      obtain ⟨A1, c1, rfl, _, hr1⟩ := own_slice hown1
      have HR1 := Lib.hid hr1
      have HB1 := Lib.hid hbel1
      clear hown1 hbel1 hr1
      go_wp2_with fail
      refine (HI.out _).mono ?_
      rintro e w2 ⟨v2, rfl, hown2, hbel2⟩
      obtain ⟨A2, c2, rfl, _, hr2⟩ := own_slice hown2
      have HR2 := Lib.hid hr2
      have HO2 := Lib.hid hown2
      have HB2 := Lib.hid hbel2
      clear hown2 hbel2 hr2
      go_wp2_with fail
      refine (eqStringS_same A2 A1 c2 c1 xs _ HR2.out (HR1.out.below HB2.out) (by omega)).mono ?_
      rintro e w3 ⟨rfl, m3, rfl⟩
      go_wp2_with fail
      refine (markStringS_own A2 c2 xs.length 1 w1.heap.size _ (w2.drewN m3) HO2.out (by omega) (by omega) (by omega) HB2.out.size).mono ?_
      rintro e w4 ⟨rfl, hown4, hbel4⟩
      have HO4 := Lib.hid hown4
      have HB4 := Lib.hid ((below_drewN HB2.out m3).trans hbel4)
      clear hown4 hbel4
      go_wp2_with fail
      refine (heldStringS_same A2 c2 xs.length 1 _ (Row.of_own HO4.out) (by omega) (by omega) (by omega)).mono ?_
      rintro e w5 ⟨rfl, hbel5⟩
      have HB5 := Lib.hid (HB4.out.trans (hbel5.mono HB4.out.size))
      have HR5 := Lib.hid ((Row.of_own HO4.out).below hbel5)
      clear hbel5
      go_wp2_with fail
      refine (HI.out _).mono ?_
      rintro e w6 ⟨v6, rfl, hown6, hbel6⟩
      obtain ⟨A6, c6, rfl, _, hr6⟩ := own_slice hown6
      have HR6 := Lib.hid hr6
      have HB6 := Lib.hid (HB5.out.trans (hbel6.mono HB5.out.size))
      have HR7 := Lib.hid (HR5.out.below hbel6)
      clear hown6 hbel6 hr6
      go_wp2_with fail
      refine (eqStringS_same A6 A1 c6 c1 xs _ HR6.out (HR1.out.below HB6.out) (by omega)).mono ?_
      rintro e w7 ⟨rfl, m7, rfl⟩
      go_wp2_with fail
      refine (heldStringS_same A2 c2 xs.length 1 _ (HR7.out.drewN m7) (by omega) (by omega) (by omega)).mono ?_
      rintro e w8 ⟨rfl, hbel8⟩
      go_wp2
      go_ret
      exact ⟨rfl, HB1.out.trans (((below_drewN HB6.out m7).trans (hbel8.mono HB6.out.size)).mono HB1.out.size)⟩

/-- What the walk gives, for every argument that can be read and every world. -/
theorem contract (H : Type) (enc : TypeId × Value → H) (W : World) (base : Nat) (args : Array Value) (ds gs : List (DataW H)) (before : List MemPlace)
    (hval : ∀ (j : Nat) t v, Try.f4.params[j]? = some t → args[j]? = some v → Value.okWide Try.prog W .any base t v)
    (hW : DataW.Whole enc Try.prog Try.f4.params.toList Rows.fnExactSplitStringSpec.vars false W args.toList ds gs before) (hsh : W.ShapedOpen Try.prog) :
    Calls Try.prog 4 args W fun e W' => ∃ v, e = .returned v ∧ Rows.fnExactSplitStringSpec.post enc Try.prog Try.f4 false true false false W args v W' := by
  have hW' := hW
  obtain ⟨p, q, hA0, hV, rfl, hfz, hnd⟩ := hW
  have hA : DataW.TrodAll enc Try.prog W 0 (fun _ => true) true Try.f4.params.toList args.toList ds p := hA0
  rw [Try.params4] at hA hval
  obtain ⟨v0, vs0, d0, ds0, p0, q0, hargs, rfl, rfl, h0, r0⟩ := trodAll_cons hA
  obtain ⟨v1, vs1, d1, ds1, p1, q1, rfl, rfl, rfl, h1, r1⟩ := trodAll_cons r0
  obtain ⟨rfl, rfl, rfl⟩ := trodAll_nil r1
  obtain rfl : args = #[v0, v1] := by cases args; simp_all
  obtain ⟨rfl, rfl⟩ := trodVars_none hV
  have k0 := h0
  have lt0 : ∀ x ∈ p0, x.block < W.heap.size := by obtain ⟨m, hm⟩ := k0; exact DataW.trod_lt m _ _ _ hm
  have k1 := h1
  have lt1 : ∀ x ∈ p1, x.block < W.heap.size := by obtain ⟨m, hm⟩ := k1; exact DataW.trod_lt m _ _ _ hm
  obtain ⟨a0, rfl, rfl, rfl, w0⟩ := open_string Try.underlying9 (hval 0 9 v0 rfl rfl) h0
  obtain ⟨a1, rfl, rfl, rfl, w1⟩ := open_string Try.underlying9 (hval 1 9 v1 rfl rfl) h1

  clear hA0
  refine (walk a0 w0 a1 w1 W  ).mono fun e W' ⟨he, bel⟩ => ?_
  subst he
  exact ⟨_, rfl, _, _, _, [], _, [], hW', trodAll_mk1 (shut_bool Try.underlying4 _), (trodAll_cons_mk (Below.trod laidOut (by kernel_rfl) (of_decide_eq_true (by kernel_rfl)) k0 bel lt0) (trodAll_cons_mk (Below.trod laidOut (by kernel_rfl) (of_decide_eq_true (by kernel_rfl)) k1 bel lt1) trodAll_mk0)), rfl, bel.frame _, fun h => by cases h⟩

set_option maxRecDepth 100000 in
theorem lifted (os : Os) (started : os.Started) (H : Type) (enc : TypeId × Value → H) :
    ReturnsInHanded {} Try.checked os 4 .any (Rows.fnExactSplitStringSpec.pre6 enc Try.prog Try.f4 Rows.fnExactSplitStringRow.domain false) (Rows.fnExactSplitStringSpec.post enc Try.prog Try.f4 false true false false) := by
  refine returnsInHanded_of_change_shaped (C := Try.checked) own started (by kernel_rfl) Try.func4
    (ChangeSpec.witness6 (enc := enc) (C := Try.checked) false ⟨#[], #[.string ByteArray.empty, .string ByteArray.empty], []⟩ 8 (by kernel_rfl) (by kernel_rfl) (by kernel_rfl) (by kernel_rfl)) ?_
  intro W base args ds gs before hval hW _ _ hsh _
  exact contract H enc W base args ds gs before hval hW hsh

theorem proved : Rows.FnExactSplitStringSaid :=
  OpenClaim.holds_of_wide 4 Try.f4 rfl rfl rfl rfl rfl rfl rfl ⟨rfl, rfl, rfl, rfl, rfl⟩ rfl rfl rfl rfl rfl (by kernel_rfl) Try.func4 (by kernel_rfl)
    (of_decide_eq_true (by kernel_rfl)) (by unfold Func.isWrapper; first | (rw [if_pos (by decide +kernel)]; kernel_rfl) | (rw [if_neg (by decide +kernel)]; exact ⟨rfl, rfl⟩))
    (fun os started H enc _ => lifted os started H enc)
end Go.Proofs.Yteflgljifbcelaa.fnExactSplitString
